/- ApartInts of the statements' kit, of two lists of one length that lie apart, in every memory. -/
import Derived.Test.YthmcckdoneiglaaGreatDoorLst
import Derived.ArgAppend
import Derived.OneCell
import Derived.Deep.DeepCutAuto
import Derived.Deep.CutBlock
import Derived.Laws.OwnMore
namespace Go.Proofs.YthmcckdoneiglaaGreatDoor
open Go Go.RowKit

/-- Marks from b on. -/
def mkV (b k : Nat) : List Value := (List.range k).map (fun t => Value.int .i64 ((b + t : Nat) : Int))
theorem mkV_succ (b k : Nat) : mkV b (k + 1) = mkV b k ++ [.int .i64 ((b + k : Nat) : Int)] := by simp [mkV, List.range_succ]
theorem mkV_length (b k : Nat) : (mkV b k).length = k := by simp [mkV]
theorem mkV_at (b k j : Nat) (hj : j < k) : (mkV b k)[j]? = some (.int .i64 ((b + j : Nat) : Int)) := by simp [mkV, hj]
theorem mkV_one (b k : Nat) : ∀ u ∈ mkV b k, u.oneCell' = true := by
  intro u h
  obtain ⟨s, _, rfl⟩ := List.mem_map.1 h
  rfl

theorem set_next (b k : Nat) (old : List Value) (hk : k < old.length) : (mkV b k ++ old.drop k).set k (.int .i64 ((b + k : Nat) : Int)) = mkV b (k + 1) ++ old.drop (k + 1) := by
  have h := mkV_length b k
  rw [List.set_append_right _ _ (by omega), h, Nat.sub_self, List.drop_eq_getElem_cons hk, List.set_cons_zero, mkV_succ]
  simp

theorem own_base {w : World} {B B' : Nat} {e : TypeId} {s : Nat} {v : Value} {n : Nat} {xs : List Value} (h : w.ownsRow B e s v n xs) (hB : B' ≤ B) : w.ownsRow B' e s v n xs := by
  refine ⟨h.1, ?_⟩
  rcases h.2 with h2 | ⟨g, cap, cur, hv, hg, r⟩
  · exact .inl h2
  · exact .inr ⟨g, cap, cur, hv, Nat.le_trans hB hg, r⟩
theorem own_keep {w w' : World} {B N : Nat} {e : TypeId} {s : Nat} {g n cap : Nat} {xs : List Value} (h : w.ownsRow B e s (.slice (some ⟨g, 0, none⟩) n cap) n xs) (hb : Below N w w') (hg : g < N) : w'.ownsRow B e s (.slice (some ⟨g, 0, none⟩) n cap) n xs := by
  refine ⟨h.1, ?_⟩
  rcases h.2 with ⟨h2, _⟩ | ⟨g', cap', cur, hv, hg', hh, r⟩
  · simp at h2
  · have hgg : g = g' := by simp only [Value.slice.injEq, Option.some.injEq, Addr.mk.injEq] at hv; exact hv.1.1
    subst hgg
    exact .inr ⟨g, cap', cur, hv, hg', by rw [hb.block g hg]; exact hh, r⟩
theorem own_block {w : World} {B : Nat} {e : TypeId} {s : Nat} {g n cap : Nat} {xs : List Value} (h : w.ownsRow B e s (.slice (some ⟨g, 0, none⟩) n cap) n xs) : ∃ cur, w.heap[g]? = some (.cells cur e (0, 0)) ∧ cur.size = cap * s ∧ B ≤ g := by
  rcases h.2 with ⟨h2, _⟩ | ⟨g', cap', cur, hv, hg', hh, _, _, hs, _⟩
  · simp at h2
  · simp only [Value.slice.injEq, Option.some.injEq, Addr.mk.injEq, true_and] at hv
    obtain ⟨⟨rfl, _⟩, rfl⟩ := hv
    exact ⟨cur, hh, hs, hg'⟩

/-- Two lists of one length, what they hold, and the list of the two. -/
structure ApS (G B m : Nat) (bl : Nat → Nat) (vs : Nat → List Value) (w0 wr : World) : Prop where
  all : ∀ q, q < 2 → wr.cell? ⟨G, q, none⟩ = some (.slice (some ⟨bl q, 0, none⟩) m m)
  row : ∀ q, q < 2 → wr.ownsRow B 3 1 (.slice (some ⟨bl q, 0, none⟩) m m) m (vs q)
  low : Below B w0 wr

theorem ApS.store {G B m : Nat} {bl : Nat → Nat} {vs vs' : Nat → List Value} {w0 wr : World} (h : ApS G B m bl vs w0 wr) (hG : ∀ q, q < 2 → ¬ G = bl q) (hne : ¬ bl 0 = bl 1) {i k : Nat} (hi : i < 2) (u : Value)
    (hi' : vs' i = (vs i).set k u) (ho : ∀ q, q < 2 → ¬ q = i → vs' q = vs q) : ApS G B m bl vs' w0 (wr.setCell ⟨bl i, k, none⟩ u) := by
  refine ⟨fun q hq => ?_, fun q hq => ?_, ?_⟩
  · exact (World.cell?_of_block (a := ⟨G, q, none⟩) (Below.heap_setCell wr ⟨bl i, k, none⟩ u G (hG i hi))).trans (h.all q hq)
  · by_cases hqi : q = i
    · subst hqi
      rw [hi']
      exact ((h.row q hq).stored k u).1
    · rw [ho q hq hqi]
      refine ownsRow_setCell_other (h.row q hq) ?_ u
      simp only [Value.ownBlock, ne_eq, Option.some.injEq]
      intro e
      rcases (show i = 0 ∨ i = 1 by omega) with rfl | rfl <;> rcases (show q = 0 ∨ q = 1 by omega) with rfl | rfl
      · exact hqi rfl
      · exact hne e.symm
      · exact hne e
      · exact hqi rfl
  · exact h.low.setCell (own_block (h.row i hi)).choose_spec.2.2 u

theorem row_cell {w : World} {B g n cap k : Nat} {xs : List Value} (h : w.ownsRow B 3 1 (.slice (some ⟨g, 0, none⟩) n cap) n xs) (hk : k < n) : ∃ u, w.cell? ⟨g, k, none⟩ = some u ∧ w.frozen? ⟨g, k, none⟩ = false := by
  obtain ⟨cur, hh, hs, _⟩ := own_block h
  have hc := h.cellAt k (by omega)
  have hl := h.1
  refine ⟨xs[k]'(by omega), ?_, ?_⟩
  · rw [hc, List.getElem?_eq_getElem (by omega)]
  · simp [World.frozen?, hh]

theorem info23 : ∃ i, Tryz.prog.info? 23 = some i ∧ i.zero = some (.slice none 0 0) ∧ i.size = 1 ∧ i.bytes = 24 := by
  have h : (Tryz.prog.info? 23).map (fun i => (i.zero, i.size, i.bytes)) = some (some (.slice none 0 0), 1, 24) := by kernel_rfl
  cases hi : Tryz.prog.info? 23 with
  | none => rw [hi] at h; cases h
  | some i =>
    rw [hi] at h
    simp only [Option.map_some, Option.some.injEq, Prod.mk.injEq] at h
    obtain ⟨e1, e2, e3⟩ := h
    exact ⟨i, rfl, e1, e2, e3⟩

theorem own_keepv {w w' : World} {B : Nat} {e : TypeId} {s : Nat} {v : Value} {n : Nat} {xs : List Value} (h : w.ownsRow B e s v n xs) (hb : Below w.heap.size w w') : w'.ownsRow B e s v n xs := by
  refine ⟨h.1, ?_⟩
  rcases h.2 with h2 | ⟨g', cap', cur, rfl, hg', hh, r⟩
  · exact .inl h2
  · refine .inr ⟨g', cap', cur, rfl, hg', ?_, r⟩
    have hlt : g' < w.heap.size := by
      rcases Nat.lt_or_ge g' w.heap.size with h' | h'
      · exact h'
      · rw [Array.getElem?_eq_none h'] at hh; cases hh
    rw [hb.block g' hlt]; exact hh
theorem own_ne {w : World} {B B2 : Nat} {e e2 : TypeId} {s s2 : Nat} {v v2 : Value} {n n2 : Nat} {xs ys : List Value} (h : w.ownsRow B e s v n xs) (h2 : w.ownsRow B2 e2 s2 v2 n2 ys) (hne : e ≠ e2) : v.ownBlock = none ∨ v.ownBlock ≠ v2.ownBlock := by
  rcases h.2 with ⟨rfl, _⟩ | ⟨g, cap, cur, rfl, _, hh, _⟩
  · exact .inl rfl
  · rcases h2.2 with ⟨rfl, _⟩ | ⟨g2, cap2, cur2, rfl, _, hh2, _⟩
    · exact .inr (by simp [Value.ownBlock])
    · refine .inr ?_
      simp only [Value.ownBlock, ne_eq, Option.some.injEq]
      intro e'
      subst e'
      rw [hh] at hh2
      simp only [Option.some.injEq, Obj.cells.injEq] at hh2
      exact hne hh2.2.1

/-- The lists gone on with, and the list of them. -/
def lsV (gs cs : Nat → Nat) (m j : Nat) : List Value := (List.range j).map (fun q => Value.slice (some ⟨gs q, 0, none⟩) (m + 30) (cs q))
theorem lsV_succ (gs cs : Nat → Nat) (m j : Nat) : lsV gs cs m (j + 1) = lsV gs cs m j ++ [.slice (some ⟨gs j, 0, none⟩) (m + 30) (cs j)] := by simp [lsV, List.range_succ]
theorem lsV_congr {gs cs gs' cs' : Nat → Nat} {m j : Nat} (h : ∀ q, q < j → gs q = gs' q ∧ cs q = cs' q) : lsV gs cs m j = lsV gs' cs' m j := by
  unfold lsV
  apply List.map_congr_left
  intro q hq
  obtain ⟨h1, h2⟩ := h q (List.mem_range.1 hq)
  rw [h1, h2]

structure Ap2 (G B m N : Nat) (bl : Nat → Nat) (j : Nat) (gs cs : Nat → Nat) (mv : Value) (w0 wr : World) : Prop where
  one : ApS G B m bl (fun q => mkV (1000 * q) m) w0 wr
  ls : wr.ownsRow N 23 1 mv j (lsV gs cs m j)
  two : ∀ q, q < j → wr.ownsRow N 3 1 (.slice (some ⟨gs q, 0, none⟩) (m + 30) (cs q)) (m + 30) (mkV (1000 * q) m ++ mkV (500000 + 1000 * q) 30)
  big : N ≤ wr.heap.size

theorem int_here (W : World) (v : Value) (t : TypeId) : ∀ (j : Nat) (u : Value), [v][j]? = some u → (W.alloc (.cells #[v] t)).cell? ((⟨W.heap.size, 0, none⟩ : Addr).add j) = some u := by
  intro j u h
  cases j with
  | zero =>
    obtain rfl : v = u := by simpa using h
    exact (cell_new_l W _ t).1
  | succ j => simp at h

set_option maxRecDepth 100000 in
set_option maxHeartbeats 2000000 in
theorem apart_any (G B m : Nat) (bl : Nat → Nat) (old : Nat → List Value) (hG : ∀ q, q < 2 → ¬ G = bl q) (hne : ¬ bl 0 = bl 1) (hm : m ≤ 64) (c : Nat) (w : World) (hBw : B ≤ w.heap.size) (h0 : ApS G B m bl old w w) (hol : ∀ q, q < 2 → (old q).length = m) :
    Calls Tryz.prog 22 #[.slice (some ⟨G, 0, none⟩) 2 c] w fun e w' => e = .returned (.bool true) ∧ Below B w w' := by
  have HO := Lib.hid hol
  clear hol
  go_enter Tryz.func22, Tryz.ntmps22
  go_upto_block 0 with (fail)
  go_cut [0] (fun a wr => a = .slice (some ⟨G, 0, none⟩) 2 c ∧ ApS G B m bl (fun q => mkV (1000 * q) m) w wr)
  case first =>
    go_wp2
    go_loopw [3] (fun x wr => ∃ i : Nat, i ≤ 2 ∧ x = .int .i64 i ∧ ApS G B m bl (fun q => if q < i then mkV (1000 * q) m else old q) w wr) (fun x _ => 2 - (intOf x).toNat)
    case atStart => exact ⟨0, by omega, rfl, by simpa using h0⟩
    case round =>
      obtain ⟨i, hi, rfl, hA⟩ := hrel
      by_cases hlt : i < 2
      · have hii : (i : Int) < 2 := by omega
        have hall := hA.all i hlt
        go_wp2
        go_loopw [4] (fun x wk => ∃ k : Nat, k ≤ m ∧ x = .int .i64 k ∧ ApS G B m bl (fun q => if q = i then mkV (1000 * i) k ++ (old i).drop k else if q < i then mkV (1000 * q) m else old q) w wk) (fun x _ => m - (intOf x).toNat)
        case atStart =>
          refine ⟨0, by omega, rfl, ⟨hA.all, fun q hq => ?_, hA.low⟩⟩
          have := hA.row q hq
          by_cases hqi : q = i
          · subst hqi
            simpa [mkV] using this
          · simpa [hqi] using this
        case round =>
          obtain ⟨k, hk, rfl, hK⟩ := hrel
          have hallk := hK.all i hlt
          by_cases hkm : k < m
          · have hki : (k : Int) < (m : Int) := by omega
            obtain ⟨u, hu, hf⟩ := row_cell (hK.row i hlt) hkm
            have hst := fun (val : Value) (hv : val = .int .i64 ((1000 * i + k : Nat) : Int)) => ApS.store hK hG hne hlt (k := k) val (vs' := fun q => if q = i then mkV (1000 * i) (k + 1) ++ (old i).drop (k + 1) else if q < i then mkV (1000 * q) m else old q) (by
              simp only [if_true]
              rw [hv, set_next _ _ _ (by rw [HO.out i hlt]; exact hkm)]) (fun q _ hqi => by simp [hqi])
            have HST := Lib.hid hst
            clear hst hK hA h0
            go_wp2
            refine ⟨⟨k + 1, by omega, by go_num, HST.out _ ?_⟩, by simp [intOf]; omega⟩
            congr 1
          · obtain rfl : k = m := by omega
            have hfin : ApS G B k bl (fun q => if q < i + 1 then mkV (1000 * q) k else old q) w wr := by
              refine ⟨hK.all, fun q hq => ?_, hK.low⟩
              have := hK.row q hq
              by_cases hqi : q = i
              · subst hqi
                have hd : (old q).drop k = [] := List.drop_of_length_le (by rw [HO.out q hlt]; exact Nat.le_refl _)
                simpa [hd] using this
              · have h2 : (q < i + 1) = (q < i) := by rw [eq_iff_iff]; omega
                simpa [hqi, h2] using this
            clear hK hA h0
            go_wp2
            exact ⟨⟨i + 1, by omega, by go_num, hfin⟩, by simp [intOf]; omega⟩
      · obtain rfl : i = 2 := by omega
        have hfin : ApS G B m bl (fun q => mkV (1000 * q) m) w wr := ⟨hA.all, fun q hq => by simpa [hq] using hA.row q hq, hA.low⟩
        clear hA h0
        go_wp2
        go_meet
        exact ⟨rfl, hfin⟩
  case rest =>
    obtain ⟨rfl, hA1⟩ := hcut
    obtain ⟨N, hN⟩ : ∃ N, N = wc.heap.size := ⟨_, rfl⟩
    have hGN : G < N := by rw [hN]; exact World.block_lt_of_cell? _ _ (hA1.all 0 (by omega))
    have hbN : ∀ q, q < 2 → bl q < N := fun q hq => by
      obtain ⟨cur, hh, _⟩ := own_block (hA1.row q hq)
      rw [hN]; exact lt_of_block hh
    have hBN : B ≤ N := by rw [hN]; exact Nat.le_trans hBw hA1.low.size
    obtain ⟨i3, e2, e3, e4, e5⟩ := infoEN
    obtain ⟨i23, d2, d3, d4, d5⟩ := info23
    have HN := Lib.hid hN
    have hNle : N ≤ wc.heap.size := Nat.le_of_eq hN
    clear h0 hN
    go_upto_block 4 with (fail)
    go_cut [0, 5] (fun a mv wr => a = .slice (some ⟨G, 0, none⟩) 2 c ∧ ∃ gs cs, Ap2 G B m N bl 2 gs cs mv w wr)
    case first =>
      go_wp2
      go_loopw [5, 6] (fun mv0 x wr => ∃ (j : Nat) (gs cs : Nat → Nat) (mv : Value), j ≤ 2 ∧ x = .int .i64 j ∧ mv = mv0 ∧ Ap2 G B m N bl j gs cs mv w wr) (fun _ x _ => 2 - (intOf x).toNat)
      case atStart => exact ⟨0, fun _ => 0, fun _ => 0, _, by omega, rfl, rfl, ⟨hA1, World.ownsRow_nil _ _ _ _, fun q hq => absurd hq (Nat.not_lt_zero _), hNle⟩⟩
      case round =>
        obtain ⟨j, gs, cs, mv, hj, rfl, rfl, hP⟩ := hrel
        by_cases hlt : j < 2
        · have hji : (j : Int) < 2 := by omega
          have hall := hP.one.all j hlt
          clear hA1
          generalize wr = wi at *
          have hrow := hP.one.row j hlt
          obtain ⟨Ni, hNi⟩ : ∃ Ni, Ni = wi.heap.size := ⟨_, rfl⟩
          have hbNi := hP.big
          rw [← hNi] at hbNi
          have HNi := Lib.hid hNi
          clear hNi
          go_wp2
          go_loopw [7, 8] (fun l x wk => ∃ k : Nat, k ≤ 30 ∧ x = .int .i64 k ∧ Below Ni wi wk ∧ ((k = 0 ∧ l = .slice (some ⟨bl j, 0, none⟩) m m) ∨ (0 < k ∧ ∃ g cp, l = .slice (some ⟨g, 0, none⟩) (m + k) cp ∧ wk.ownsRow Ni 3 1 l (m + k) (mkV (1000 * j) m ++ mkV (500000 + 1000 * j) k)))) (fun _ x _ => 30 - (intOf x).toNat)
          case atStart => exact ⟨0, by omega, rfl, Below.refl _ _, .inl ⟨rfl, rfl⟩⟩
          case round =>
            obtain ⟨k, hk, rfl, hbk, hl⟩ := hrel
            by_cases hk30 : k < 30
            · have hki : (k : Int) < 30 := by omega
              have hsz : Ni ≤ wr.heap.size := by rw [HNi.out]; exact hbk.size
              have hval : ((500000 : Int) + 1000 * (j : Int) + (k : Int)) = ((500000 + 1000 * j + k : Nat) : Int) := by omega
              have HV := Lib.hid hval
              clear hval
              rcases hl with ⟨rfl, rfl⟩ | ⟨hk0, g, cp, rfl, hown⟩
              · have hrk := own_keep hrow hbk (Nat.lt_of_lt_of_le (hbN j hlt) hbNi)
                have hrk2 := hrk.alloc (.cells #[.int .i64 (500000 + 1000 * (j : Int))] 3)
                have hcl := hrk2.cells (g := bl j) rfl
                clear hP hrow hall hrk
                go_wp2_with (at_builtin; refine wpList_append_grows _ rfl _ _ 23 rfl 3 i3 (.int .i64 0) 1 8 Tryz.underlying23 e2 e3 e4 e5 rfl (by omega) (some ⟨bl j, 0, none⟩) m m (mkV (1000 * j) m) rfl (fun h => by cases h) (by simp [mkV_length]) (fun b hb q u hq => by cases hb; exact hcl q u hq) ⟨_, 0, none⟩ 1 1 [.int .i64 (500000 + 1000 * (j : Int))] rfl rfl (int_here _ _ _) (by simp [Value.oneCell']) (by omega) (by unfold maxLen; omega) (by omega) ?_)
                intro v' w4 hR4 hg4
                obtain ⟨g', cp', rfl, hbg'⟩ := row_form hR4 (by omega)
                have hB4 : Below Ni wi w4 := hbk.trans (((Below.refl _ wr).alloc hsz _).trans (below_own hg4 (by simp; omega) (fun q hq => by cases hq)))
                have hR5 := own_base hR4 (B' := Ni) (by first | omega | (simp; omega))
                have HR := Lib.hid hR5
                clear hR4 hg4 hR5 hrk2 hcl
                go_wp2
                refine ⟨⟨1, by omega, by go_num, hB4, .inr ⟨by omega, g', cp', rfl, ?_⟩⟩, by simp [intOf]⟩
                have := HR.out
                rw [show mkV (500000 + 1000 * j) 1 = [.int .i64 (500000 + 1000 * (j : Int))] from by simp [mkV, List.range_succ]]
                exact this
              · have hown2 := hown.alloc (.cells #[.int .i64 (500000 + 1000 * (j : Int) + (k : Int))] 3)
                clear hP hrow hall
                go_wp2_with (at_builtin; refine wpList_append_own _ rfl _ _ 23 rfl Ni 3 i3 (.int .i64 0) 1 8 Tryz.underlying23 e2 e3 e4 e5 rfl (by omega) _ (m + k) _ rfl hown2 ⟨_, 0, none⟩ 1 1 [.int .i64 (500000 + 1000 * (j : Int) + (k : Int))] rfl rfl (int_here _ _ _) (by simp [Value.oneCell']) (by unfold maxLen; omega) (by omega) (by simp; omega) ?_)
                intro v' w4 hR4 hg4 _
                obtain ⟨g', cp', rfl, hbg'⟩ := row_form hR4 (by omega)
                have hB4 : Below Ni wi w4 := hbk.trans (((Below.refl _ wr).alloc hsz _).trans (below_own hg4 (by simp; omega) (fun q hq => (hown2.lt q hq).1)))
                have HR := Lib.hid hR4
                clear hR4 hg4 hown2 hown
                go_wp2
                refine ⟨⟨k + 1, by omega, by go_num, hB4, .inr ⟨by omega, g', cp', by rw [Nat.add_assoc], ?_⟩⟩, by simp [intOf]; omega⟩
                have := HR.out
                rw [mkV_succ, ← List.append_assoc, ← HV.out]
                simpa [Nat.add_assoc] using this
            · obtain rfl : k = 30 := by omega
              rcases hl with ⟨h, _⟩ | ⟨_, g, cp, rfl, hown⟩
              · omega
              · have hsz : Ni ≤ wr.heap.size := by rw [HNi.out]; exact hbk.size
                have hbk' : Below wi.heap.size wi wr := by rw [← HNi.out]; exact hbk
                have hls := own_keepv hP.ls hbk'
                have hW1 : Below Ni wi (wr.alloc (.cells #[.slice (some ⟨g, 0, none⟩) (m + 30) cp] 23)) := hbk.trans ((Below.refl _ wr).alloc hsz _)
                have hls2 := hls.alloc (.cells #[.slice (some ⟨g, 0, none⟩) (m + 30) cp] 23)
                have hown2 := hown.alloc (.cells #[.slice (some ⟨g, 0, none⟩) (m + 30) cp] 23)
                have hfin : ∀ (mv' : Value) (w5 : World), w5.ownsRow N 23 1 mv' (j + 1) (lsV gs cs m j ++ [.slice (some ⟨g, 0, none⟩) (m + 30) cp]) → (wr.alloc (.cells #[.slice (some ⟨g, 0, none⟩) (m + 30) cp] 23)).grownBy w5 mv.ownBlock →
                    ∃ gs' cs', Ap2 G B m N bl (j + 1) gs' cs' mv' w w5 := by
                  intro mv' w5 hR5 hg5
                  refine ⟨fun q => if q = j then g else gs q, fun q => if q = j then cp else cs q, ⟨⟨fun q hq => ?_, fun q hq => ?_, ?_⟩, ?_, fun q hq => ?_, ?_⟩⟩
                  · refine hg5.cell ((hW1.cell (p := ⟨G, q, none⟩) (Nat.lt_of_lt_of_le hGN hbNi)).trans (hP.one.all q hq)) ?_
                    intro e
                    have := (hls.lt G e.symm).1
                    omega
                  · exact (own_keep (hP.one.row q hq) hW1 (Nat.lt_of_lt_of_le (hbN q hq) hbNi)).kept hg5 (own_ne (own_keep (hP.one.row q hq) hW1 (Nat.lt_of_lt_of_le (hbN q hq) hbNi)) hls2 (by decide))
                  · exact hP.one.low.trans ((hW1.mono (by omega)).trans (below_own hg5 (by simp; omega) (fun k hk => by have := (hls.lt k hk).1; omega)))
                  · rw [lsV_succ]
                    simp only [if_true]
                    rw [lsV_congr (gs' := gs) (cs' := cs) (fun q hq => by simp [Nat.ne_of_lt hq])]
                    exact hR5
                  · by_cases hqj : q = j
                    · subst hqj
                      simp only [if_true]
                      exact (own_base hown2 hbNi).kept hg5 (own_ne hown2 hls2 (by decide))
                    · simp only [hqj, if_false]
                      have h2 := (own_keepv (hP.two q (by omega)) hbk').alloc (.cells #[.slice (some ⟨g, 0, none⟩) (m + 30) cp] 23)
                      exact h2.kept hg5 (own_ne h2 hls2 (by decide))
                  · have := hg5.size
                    simp at this
                    omega
                have HF := Lib.hid hfin
                clear hfin hown hown2 hP hrow hall hW1
                go_wp2_with (at_builtin; refine wpList_append_own _ rfl _ _ 39 rfl N 23 i23 (.slice none 0 0) 1 24 Tryz.underlying39 d2 d3 d4 d5 rfl (by omega) _ j _ rfl hls2 ⟨_, 0, none⟩ 1 1 [.slice (some ⟨g, 0, none⟩) (m + 30) cp] rfl rfl (int_here _ _ _) (by simp [Value.oneCell']) (by unfold maxLen; omega) (by omega) (by simp; omega) ?_)
                intro mv' w5 hR5 hg5 _
                obtain ⟨gs', cs', hnew⟩ := HF.out mv' w5 hR5 hg5
                obtain ⟨gm, cm, rfl, _⟩ := row_form hR5 (by omega)
                clear hR5 hg5 hls2 hls
                go_wp2
                exact ⟨⟨j + 1, gs', cs', _, by omega, by go_num, rfl, hnew⟩, by simp [intOf]; omega⟩
        · obtain rfl : j = 2 := by omega
          go_wp2
          go_meet
          exact ⟨rfl, gs, cs, hP⟩
    case rest =>
      obtain ⟨rfl, gs, cs, hP⟩ := hcut
      obtain ⟨gm, cm, rfl, _⟩ := row_form hP.ls (by omega)
      have hbel := hP.one.low
      have hall := hP.one.all
      have hm1 : ∀ q k, q < 2 → k < m → wc.cell? ⟨bl q, k, none⟩ = some (.int .i64 ((1000 * q + k : Nat) : Int)) := fun q k hq hk => by
        rw [(hP.one.row q hq).cellAt k (by omega), mkV_at _ _ _ hk]
      have hmo : ∀ q, q < 2 → wc.cell? ⟨gm, q, none⟩ = some (.slice (some ⟨gs q, 0, none⟩) (m + 30) (cs q)) := fun q hq => by
        rw [hP.ls.cellAt q (by omega)]; simp [lsV, hq]
      have hcs : ∀ q, q < 2 → m + 30 ≤ cs q := fun q hq => (row_cap (hP.two q hq)).1
      have hm2 : ∀ q k, q < 2 → k < m → wc.cell? ⟨gs q, k, none⟩ = some (.int .i64 ((1000 * q + k : Nat) : Int)) := fun q k hq hk => by
        rw [(hP.two q hq).cellAt k (by omega), List.getElem?_append_left (by rw [mkV_length]; exact hk), mkV_at _ _ _ hk]
      have hm3 : ∀ q k, q < 2 → k < 30 → wc.cell? ⟨gs q, m + k, none⟩ = some (.int .i64 ((500000 + 1000 * q + k : Nat) : Int)) := fun q k hq hk => by
        rw [(hP.two q hq).cellAt (m + k) (by omega), List.getElem?_append_right (by rw [mkV_length]; omega), mkV_length, Nat.add_sub_cancel_left, mkV_at _ _ _ hk]
      have H1 := Lib.hid hm1
      have H2 := Lib.hid hm2
      have H3 := Lib.hid hm3
      have HM := Lib.hid hmo
      have HA := Lib.hid hall
      have HC := Lib.hid hcs
      clear hm1 hm2 hm3 hmo hall hcs hP hA1
      go_wp2
      go_loop [9] (fun x => ∃ i : Nat, i ≤ 2 ∧ x = .int .i64 i) (fun x => 2 - (intOf x).toNat)
      case atStart => exact ⟨0, by omega, rfl⟩
      case round =>
        obtain ⟨i, hi, rfl⟩ := hrel
        by_cases hlt : i < 2
        · have hii : (i : Int) < 2 := by omega
          have a1 := HA.out i hlt
          have a2 := HM.out i hlt
          have a3 := HC.out i hlt
          go_wp2
          go_loop [11] (fun x => ∃ k : Nat, k ≤ m ∧ x = .int .i64 k) (fun x => m - (intOf x).toNat)
          case atStart => exact ⟨0, by omega, rfl⟩
          case round =>
            obtain ⟨k, hk, rfl⟩ := hrel
            by_cases hkm : k < m
            · have hki : (k : Int) < (m : Int) := by omega
              have b1 := H1.out i k hlt hkm
              have b2 := H2.out i k hlt hkm
              go_wp2
              exact ⟨⟨k + 1, by omega, by go_num⟩, by simp [intOf]; omega⟩
            · obtain rfl : k = m := by omega
              go_wp2
              go_loop [12] (fun x => ∃ t : Nat, t ≤ 30 ∧ x = .int .i64 t) (fun x => 30 - (intOf x).toNat)
              case atStart => exact ⟨0, by omega, rfl⟩
              case round =>
                obtain ⟨t, ht, rfl⟩ := hrel
                by_cases ht30 : t < 30
                · have hti : (t : Int) < 30 := by omega
                  have b3 := H3.out i t hlt ht30
                  go_wp2
                  exact ⟨⟨t + 1, by omega, by go_num⟩, by simp [intOf]; omega⟩
                · obtain rfl : t = 30 := by omega
                  go_wp2
                  exact ⟨⟨i + 1, by omega, by go_num⟩, by simp [intOf]; omega⟩
        · obtain rfl : i = 2 := by omega
          go_wp2
          go_ret
          exact ⟨rfl, hbel⟩
end Go.Proofs.YthmcckdoneiglaaGreatDoor
