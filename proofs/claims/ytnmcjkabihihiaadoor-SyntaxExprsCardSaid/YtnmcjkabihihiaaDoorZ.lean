/- Package lex's Scan: for every text and every memory in which the library's error lies. -/
import Derived.Test.YtnmcjkabihihiaaDoorY
import Derived.Shelf.RegionOpen
import Derived.Outline
namespace Go.Proofs.YtnmcjkabihihiaaDoor
open Go Go.RowKit

attribute [local go_sem] Oper.semAt_some

/-- What Scan answers: the words in new memory, or the fault. -/
def ScanRes (s : ByteArray) (w : World) (e : Ending) (w' : World) : Prop :=
  Below w.heap.size w w' ∧
  ((∃ (ys : List It) (q : Option Addr) (c : Nat), ys.map It.key = allItems s ∧ (∀ x ∈ ys, x.e = 0) ∧ e = .returned (.tuple #[.slice q ys.length c, .int .i64 0, .int .i64 0]) ∧ w'.ownsRow w.heap.size 54 4 (.slice q ys.length c) ys.length (tokCells ys)) ∨
   (∃ (pr : List It) (x : It), (pr ++ [x]).map It.key <+: allItems s ∧ x.e ≠ 0 ∧ e = .returned (.tuple #[.slice none 0 0, .int .i64 (x.a : Nat), .int .i64 (x.e : Nat)])))

/-- Scan's variables between two rounds. -/
def ScI (w : World) (pre : List It) (W : World) : Prop :=
  ((((Boxed W w.heap.size 47 (.slice none 0 0) ∧ Boxed W (w.heap.size + 1) 3 (.int .i64 0)) ∧ Boxed W (w.heap.size + 1 + 1) 23 (.int .i64 0)) ∧
    (∃ v, Boxed W (w.heap.size + 1 + 1 + 1) 47 v ∧ W.ownsRow w.heap.size 54 4 v pre.length (tokCells pre) ∧ ∃ q c, v = .slice q pre.length c)) ∧ (∀ x ∈ pre, x.e = 0)) ∧ Below w.heap.size w W
def ScX (w : World) (c : Code) (pre : List It) (W : World) : Prop :=
  (c = .ret ∧ ∃ pr x, pre = pr ++ [x] ∧ x.e ≠ 0 ∧ Boxed W w.heap.size 47 (.slice none 0 0) ∧ Boxed W (w.heap.size + 1) 3 (.int .i64 (x.a : Nat)) ∧ Boxed W (w.heap.size + 1 + 1) 23 (.int .i64 (x.e : Nat))) ∧ Below w.heap.size w W
theorem scI_own {w : World} {B : Nat} (hB : w.heap.size ≤ B) : OwnFrom B (ScI w) :=
  OwnFrom.and (OwnFrom.and (OwnFrom.and (OwnFrom.and (OwnFrom.and (Own.from (boxed_own _ _ _) _) (Own.from (boxed_own _ _ _) _)) (Own.from (boxed_own _ _ _) _)) (Own.from (holdsRow_own _ _ _ _ _ _ _ _) _)) (fun _ _ _ _ h _ _ => h)) (ownFrom_below (Nat.le_refl _) hB)
theorem scX_own {w : World} {B : Nat} (hB : w.heap.size ≤ B) (c : Code) : OwnFrom B (ScX w c) := by
  refine OwnFrom.and (fun pre X Y row h hg hr => ?_) (ownFrom_below (Nat.le_refl _) hB)
  obtain ⟨h1, pr, x, h2, h3, h4, h5, h6⟩ := h
  have hr' := fun r e => (hr r e).2
  exact ⟨h1, pr, x, h2, h3, boxed_own _ _ (fun _ => _) () X Y row h4 hg hr', boxed_own _ _ (fun _ => _) () X Y row h5 hg hr', boxed_own _ _ (fun _ => _) () X Y row h6 hg hr'⟩

theorem tok_not_box {W : World} {g B : Nat} {k : Int} {t : ByteArray} {v a : Int} {T : TypeId} {u : Value} (h : TokB W g k t v a) (hb : Boxed W B T u) : g ≠ B := by
  rintro rfl
  have := (show W.heap[g]? = _ from h).symm.trans hb
  simp at this
theorem sc_ret {w W : World} {B : Nat} {pre : List It} {x : It} (d2 : Boxed W w.heap.size 47 (.slice none 0 0)) (d3 : Boxed W (w.heap.size + 1) 3 (.int .i64 0)) (d4 : Boxed W (w.heap.size + 1 + 1) 23 (.int .i64 0)) (hBW : Below w.heap.size w W) (hxe : ¬ x.e = 0) :
    KeepsFrom B W (((W.setCell ⟨w.heap.size, 0, none⟩ (.slice none 0 0)).setCell ⟨w.heap.size + 1, 0, none⟩ (.int .i64 (x.a : Nat))).setCell ⟨w.heap.size + 1 + 1, 0, none⟩ (.int .i64 (x.e : Nat))).drew ∧
    ScX w .ret (pre ++ [x]) (((W.setCell ⟨w.heap.size, 0, none⟩ (.slice none 0 0)).setCell ⟨w.heap.size + 1, 0, none⟩ (.int .i64 (x.a : Nat))).setCell ⟨w.heap.size + 1 + 1, 0, none⟩ (.int .i64 (x.e : Nat))).drew := by
  refine ⟨((((KeepsOthers.setCell _ _ _).trans (KeepsOthers.setCell _ _ _)).trans (KeepsOthers.setCell _ _ _)).trans (KeepsOthers.drew _)).from _, ⟨rfl, pre, x, rfl, hxe, ?_, ?_, ?_⟩, ?_⟩
  · exact ((d2.set _).other (by omega) _).other (by omega) _
  · exact ((d3.other (by omega) _).set _).other (by omega) _
  · exact ((d4.other (by omega) _).other (by omega) _).set _
  · exact (((hBW.setCell (p := ⟨w.heap.size, 0, none⟩) (Nat.le_refl _) _).setCell (p := ⟨w.heap.size + 1, 0, none⟩) (by simp) _).setCell (p := ⟨w.heap.size + 1 + 1, 0, none⟩) (by simp; omega) _).drew
theorem results16 (tmps : Array Value) (w : World) (b2 b3 b4 : Nat) (q : Option Addr) (n c : Nat) (x y : Int) (h2 : tmps[2]?.getD undef = .pointer (some ⟨b2, 0, none⟩)) (h3 : tmps[3]?.getD undef = .pointer (some ⟨b3, 0, none⟩)) (h4 : tmps[4]?.getD undef = .pointer (some ⟨b4, 0, none⟩))
    (c2 : w.cell? ⟨b2, 0, none⟩ = some (.slice q n c)) (c3 : w.cell? ⟨b3, 0, none⟩ = some (.int .i64 x)) (c4 : w.cell? ⟨b4, 0, none⟩ = some (.int .i64 y)) :
    (results Tryd.f13 tmps).run Tryd.prog w = .ok (.tuple #[.slice q n c, .int .i64 x, .int .i64 y]) w := by
  simp [results, Tryd.results13, go_sem, h2, h3, h4, c2, c3, c4]
theorem cell_put {W : World} {a : Addr} {v : Value} {D : Nat} {o o' : Obj} (h : W.cell? a = some v) (hD : W.heap[D]? = some o) (hc : o.isCells = false) : (W.putObj D o').cell? a = some v :=
  cell_kept h (grownBy_putObj' W D o') (fun r e => by cases e; exact ⟨_, hD, hc⟩)
theorem allItems_len (s : ByteArray) : (allItems s).length ≤ 65537 := by
  unfold allItems
  split
  · simp
  · have h := scan_count _ (bl s) (Nat.le_refl _) 0
    rw [bl_length] at h
    unfold itemsOf
    rw [List.length_append, List.length_map]
    split
    · simp; omega
    · simp; omega
theorem row_new (W : World) (L : List Value) (T : TypeId) : ∀ (j : Nat) (u : Value), L[j]? = some u → (W.alloc (.cells L.toArray T)).cell? ((⟨W.heap.size, 0, none⟩ : Addr).add j) = some u := by
  intro j u h
  rw [show ((⟨W.heap.size, 0, none⟩ : Addr).add j) = ⟨W.heap.size, j, none⟩ from by unfold Addr.add; split <;> simp_all, World.cell?_alloc_new]
  simpa using h

set_option maxRecDepth 100000 in
set_option maxHeartbeats 2000000 in
theorem scan_any (s : ByteArray) (w : World) (hE : Env w) : Calls Tryd.prog 13 #[.string s] w (ScanRes s w) := by
  obtain ⟨gf, eg, hcall⟩ := each_res s
  obtain ⟨i0, hi, hz0, hz1, hz2⟩ := info29
  have hElt := hE.lt
  have hmax := allItems_len s
  refine (callsIn_wide (n := 3)).1 ?_
  refine callsIn_of_wp_marks Tryd.func13 rfl trivial ?_ rfl
  simp only [Tryd.ntmps13, List.size_toArray, List.length_cons, List.length_nil, Nat.reduceAdd, Nat.reduceSub, Array.replicate_succ, Array.replicate_zero, List.push_toArray, List.append_toArray, List.nil_append, List.cons_append]
  gi_wp2
  refine ⟨trivial, ?_⟩
  gi_at_call 22
  refine (callsIn_wide.2 (hcall _)).mono ?_
  rintro e w1 ⟨lb, rfl, hb1, hseq⟩
  have b2 := (((Boxed.new w 47 (.slice none 0 0)).alloc (.cells #[.int .i64 0] 3)).alloc (.cells #[.int .i64 0] 23)).alloc (.cells #[.slice none 0 0] 47)
  have b3 := ((Boxed.new (w.alloc (.cells #[.slice none 0 0] 47)) 3 (.int .i64 0)).alloc (.cells #[.int .i64 0] 23)).alloc (.cells #[.slice none 0 0] 47)
  have b4 := (Boxed.new ((w.alloc (.cells #[.slice none 0 0] 47)).alloc (.cells #[.int .i64 0] 3)) 23 (.int .i64 0)).alloc (.cells #[.slice none 0 0] 47)
  have b5 := Boxed.new (((w.alloc (.cells #[.slice none 0 0] 47)).alloc (.cells #[.int .i64 0] 3)).alloc (.cells #[.int .i64 0] 23)) 47 (.slice none 0 0)
  simp only [World.size_alloc] at b3 b4 b5
  have hB0 : Below w.heap.size w ((((w.alloc (.cells #[.slice none 0 0] 47)).alloc (.cells #[.int .i64 0] 3)).alloc (.cells #[.int .i64 0] 23)).alloc (.cells #[.slice none 0 0] 47)) := ((((Below.refl _ w).alloc (Nat.le_refl _) _).alloc (by simp) _).alloc (by simp; omega) _).alloc (by simp; omega) _
  have hsz : ((((w.alloc (.cells #[.slice none 0 0] 47)).alloc (.cells #[.int .i64 0] 3)).alloc (.cells #[.int .i64 0] 23)).alloc (.cells #[.slice none 0 0] 47)).heap.size = w.heap.size + 1 + 1 + 1 + 1 := by simp
  generalize ((((w.alloc (.cells #[.slice none 0 0] 47)).alloc (.cells #[.int .i64 0] 3)).alloc (.cells #[.int .i64 0] 23)).alloc (.cells #[.slice none 0 0] 47)) = w0 at *
  have hgr := grown_of_below hb1
  have c2 := b2.kept hgr (by simp)
  have c3 := b3.kept hgr (by simp)
  have c4 := b4.kept hgr (by simp)
  have c5 := b5.kept hgr (by simp)
  have hB1 := hB0.trans (hb1.mono (by omega))
  have hs1 := hb1.size
  rw [hsz] at hs1
  clear b2 b3 b4 b5 hb1 hB0 hgr
  have HSZ := Lib.hid hsz
  have HMAX := Lib.hid hmax
  clear hsz hmax
  gi_wp2_with fail
  have hE1 := hE.below hB1 hElt
  refine wpIn_rangeFunc_ownH rfl (by omega) (gf := gf) (lb := lb) rfl trivial eg
    (hseq (3 - 1) w.heap.size w1.heap.size (w.heap.size + 1 + 1 + 1) w1 (fun _ _ _ => rfl) (Nat.le_refl _) hElt hB1.size (Nat.le_refl _) hE1 (ptOk_nil c5) (by omega)) (fun h k => h.trans k) (fun W l o o' h1 h2 h3 h4 => keep_b hB1.size (by omega) W l o o' h1 h2 h3 h4) (Below.refl _ _) (fun _ => rfl)
    (ScI w) (ScX w) (scI_own hB1.size) (scX_own hB1.size)
    ⟨⟨⟨⟨⟨c2, c3⟩, c4⟩, ⟨_, c5, World.ownsRow_nil _ _ _ _, ⟨_, _, rfl⟩⟩⟩, fun x hx => absurd hx (by simp)⟩, hB1⟩
    (fun x a' W => ∃ g, TokB W g (x.k : Nat) x.t (x.v : Nat) (x.a : Nat) ∧ a' = { tmps := #[.string s, undef, .pointer (some ⟨w.heap.size, 0, none⟩), .pointer (some ⟨w.heap.size + 1, 0, none⟩), .pointer (some ⟨w.heap.size + 1 + 1, 0, none⟩), .pointer (some ⟨w.heap.size + 1 + 1 + 1, 0, none⟩), .pointer (some ⟨g, 0, none⟩), .int .i64 (x.e : Nat), .string s, .func (.func gf) #[] lb, (tokV (x.k : Nat) x.t (x.v : Nat) (x.a : Nat)), .int .i64 (x.e : Nat), undef, undef, undef, undef, undef, undef, undef, undef, undef, undef], defers := [] })
    (fun x a' _ X Y row hs hg hr => by obtain ⟨g, h2, h3⟩ := hs; exact ⟨g, tokB_own g _ _ _ _ () X Y row h2 hg (fun r e => (hr r e).2), h3⟩)
    ?assign ?body ?done ?stop
  case assign =>
    rintro l pre x W K hI hK
    obtain ⟨⟨⟨⟨⟨d2, d3⟩, d4⟩, ⟨v, d5, hrow, hv⟩⟩, hx0⟩, hBW⟩ := hI
    have hK2 := Lib.hid hK
    clear hK
    unfold It.enc
    gi_wp2
    exact hK2.out _ _ ((KeepsOthers.alloc _ _).from _) (keep_alloc hBW.size d5.lt _) ⟨⟨⟨⟨⟨d2.alloc _, d3.alloc _⟩, d4.alloc _⟩, ⟨v, d5.alloc _, hrow.alloc _, hv⟩⟩, hx0⟩, hBW.alloc hBW.size _⟩ ⟨W.heap.size, World.alloc_heap_new W _, rfl⟩
  case body =>
    rintro l pre x a' W _ _ hI ⟨g, hT, rfl⟩ hlt
    obtain ⟨⟨⟨⟨⟨d2, d3⟩, d4⟩, ⟨v, d5, hrow, ⟨q, c, rfl⟩⟩⟩, hx0⟩, hBW⟩ := hI
    obtain ⟨k0, k1, k2, k3, f0, f1, f2, f3⟩ := hT.at_
    by_cases hxe : x.e = 0
    · have hxe1 : (((x.e : Nat) : Int) != 0) = false := by rw [hxe]; rfl
      have hc5 := d5.cell
      have hlen : pre.length + 1 ≤ 65537 := by have := HMAX.out; omega
      gi_wp2_with (gi_at_builtin; refine wpListIn_append_own_at _ rfl _ _ 47 rfl w.heap.size 54 i0 _ 4 40 Tryd.underlying47 hi hz0 hz1 hz2 rfl (by decide) _ _ _ rfl (hrow.alloc _) ⟨W.heap.size, 0, none⟩ 1 1 [.int .i64 (x.k : Nat), .string x.t, .int .i64 (x.v : Nat), .int .i64 (x.a : Nat)] rfl rfl ?c1 ?c2 ?c3 ?c4 ?c5 ?_)
      case c1 => exact row_new W _ 54
      case c2 =>
        intro u hu
        rcases List.mem_cons.1 hu with rfl | hu
        · rfl
        rcases List.mem_cons.1 hu with rfl | hu
        · rfl
        rcases List.mem_cons.1 hu with rfl | hu
        · rfl
        rcases List.mem_cons.1 hu with rfl | hu
        · rfl
        · exact absurd hu (by simp)
      case c3 => unfold maxLen; omega
      case c4 => omega
      case c5 => have := hBW.size; simp; omega
      intro v' w9 hown9 hgrow9 _ hat9
      obtain ⟨g', cap', rfl⟩ := ownsRow_succ hown9
      obtain ⟨hv1, hv2, hr2, hk2, hb2⟩ := d5.appended (by decide) hrow hBW.size (by omega) hown9 hgrow9
      have hKp := keep_append (n₁ := w1.heap.size) d5 hrow hBW.size (by omega) (by omega) hown9 hgrow9 (by rw [World.size_alloc]; exact hat9)
      have e2 := ((d2.alloc (.cells #[.int .i64 (x.k : Nat), .string x.t, .int .i64 (x.v : Nat), .int .i64 (x.a : Nat)] 54)).kept hgrow9 (d2.not_row (by decide) hrow)).other (B' := w.heap.size + 1 + 1 + 1) (by omega) (.slice (some ⟨g', 0, none⟩) (pre.length + 1) cap')
      have e3 := ((d3.alloc (.cells #[.int .i64 (x.k : Nat), .string x.t, .int .i64 (x.v : Nat), .int .i64 (x.a : Nat)] 54)).kept hgrow9 (d3.not_row (by decide) hrow)).other (B' := w.heap.size + 1 + 1 + 1) (by omega) (.slice (some ⟨g', 0, none⟩) (pre.length + 1) cap')
      have e4 := ((d4.alloc (.cells #[.int .i64 (x.k : Nat), .string x.t, .int .i64 (x.v : Nat), .int .i64 (x.a : Nat)] 54)).kept hgrow9 (d4.not_row (by decide) hrow)).other (B' := w.heap.size + 1 + 1 + 1) (by omega) (.slice (some ⟨g', 0, none⟩) (pre.length + 1) cap')
      have hc9 := hv1.cell
      have hf9 := hv1.frozen
      have hI2 : ScI w (pre ++ [x]) (w9.setCell ⟨w.heap.size + 1 + 1 + 1, 0, none⟩ (.slice (some ⟨g', 0, none⟩) (pre.length + 1) cap')) := by
        refine ⟨⟨⟨⟨⟨e2, e3⟩, e4⟩, ⟨_, hv2, ?_, ⟨_, _, by rw [List.length_append]; rfl⟩⟩⟩, fun y hy => ?_⟩, hBW.trans hb2⟩
        · rw [List.length_append, tokCells_snoc]; exact hr2
        · rcases List.mem_append.1 hy with h | h
          · exact hx0 y h
          · obtain rfl : y = x := by simpa using h
            exact hxe
      have HI2 := Lib.hid hI2
      have HKP := Lib.hid hKp
      clear hI2 hKp hv2 hr2 hb2 e2 e3 e4 hown9 hgrow9 hat9 hrow d5 d2 d3 d4 hBW hx0
      gi_wp2
      exact ⟨hk2.from _, HKP.out, HI2.out⟩
    · have hxe1 : (((x.e : Nat) : Int) != 0) = true := by simp; omega
      have g2 := d2.cell
      have g3 := d3.cell
      have g4 := d4.cell
      have p2 := d2.frozen
      have p3 := d3.frozen
      have p4 := d4.frozen
      have hbg2 : g ≠ w.heap.size := tok_not_box hT d2
      have hbg3 : g ≠ w.heap.size + 1 := tok_not_box hT d3
      have hbg4 : g ≠ w.heap.size + 1 + 1 := tok_not_box hT d4
      gi_wp2
      have hmo : Tryd.prog.follows .mixedOrders = true := by kernel_rfl
      gi_region_with_o (fail)
      all_goals gi_wp2
      all_goals exact sc_ret d2 d3 d4 hBW hxe
  case done =>
    rintro D xs W hD hS hI hK
    obtain ⟨⟨⟨⟨⟨d2, d3⟩, d4⟩, ⟨v, d5, hrow, ⟨q, c, rfl⟩⟩⟩, hx0⟩, hBW⟩ := hI
    have g2 := d2.cell
    have g3 := d3.cell
    have g4 := d4.cell
    have g5 := d5.cell
    have p2 := d2.frozen
    have p3 := d3.frozen
    have p4 := d4.frozen
    gi_wp2
    have e2 := (((d2.set (.slice q xs.length c)).other (B' := w.heap.size + 1) (by omega) (.int .i64 0)).other (B' := w.heap.size + 1 + 1) (by omega) (.int .i64 0))
    have e3 := (((d3.other (B' := w.heap.size) (by omega) (.slice q xs.length c)).set (.int .i64 0)).other (B' := w.heap.size + 1 + 1) (by omega) (.int .i64 0))
    have e4 := (((d4.other (B' := w.heap.size) (by omega) (.slice q xs.length c)).other (B' := w.heap.size + 1) (by omega) (.int .i64 0)).set (.int .i64 0))
    have hB3 := (((hBW.setCell (p := ⟨w.heap.size, 0, none⟩) (Nat.le_refl _) (.slice q xs.length c)).setCell (p := ⟨w.heap.size + 1, 0, none⟩) (by simp) (.int .i64 0)).setCell (p := ⟨w.heap.size + 1 + 1, 0, none⟩) (by simp; omega) (.int .i64 0))
    have hk3 := ((((KeepsOthers.setCell W ⟨w.heap.size, 0, none⟩ (.slice q xs.length c)).trans (KeepsOthers.setCell _ ⟨w.heap.size + 1, 0, none⟩ (.int .i64 0))).trans (KeepsOthers.setCell _ ⟨w.heap.size + 1 + 1, 0, none⟩ (.int .i64 0))).same D _ hK rfl)
    have hr1 := hrow.kept (grownBy_setCell' W w.heap.size (.slice q xs.length c)) (.inr (d2.not_row (by decide) hrow).symm)
    have hr2 := hr1.kept (grownBy_setCell' _ (w.heap.size + 1) (.int .i64 0)) (.inr ((d3.other (B' := w.heap.size) (by omega) (.slice q xs.length c)).not_row (by decide) hr1).symm)
    have hr3 := hr2.kept (grownBy_setCell' _ (w.heap.size + 1 + 1) (.int .i64 0)) (.inr (((d4.other (B' := w.heap.size) (by omega) (.slice q xs.length c)).other (B' := w.heap.size + 1) (by omega) (.int .i64 0)).not_row (by decide) hr2).symm)
    generalize (((W.setCell ⟨w.heap.size, 0, none⟩ (.slice q xs.length c)).setCell ⟨w.heap.size + 1, 0, none⟩ (.int .i64 0)).setCell ⟨w.heap.size + 1 + 1, 0, none⟩ (.int .i64 0)) = W3 at *
    have hlt := heap_lt hk3
    refine ⟨by simp, .inl ⟨_, _, rfl, run_takeDeferred hk3, ?_⟩⟩
    have hr4 := ownsRow_putObj hr3 (.deferred none) hk3 rfl
    have hB4 := hB3.trans (belowK_b (w := w) (Nat.le_refl _) W3 D _ (.deferred none) (by omega) hk3 rfl rfl)
    exact ⟨_, results16 _ _ _ _ _ _ _ _ _ _ rfl rfl rfl (cell_put e2.cell hk3 rfl) (cell_put e3.cell hk3 rfl) (cell_put e4.cell hk3 rfl), hB4, .inl ⟨xs, q, c, hS, hx0, rfl, hr4⟩⟩
  case stop =>
    rintro D c pre W hD hS hX hK
    obtain ⟨⟨rfl, pr, x, rfl, hxe, d2, d3, d4⟩, hBW⟩ := hX
    have g2 := d2.cell
    have g3 := d3.cell
    have g4 := d4.cell
    gi_wp2
    refine ⟨by simp, .inl ⟨_, _, rfl, run_takeDeferred hK, ?_⟩⟩
    have hB4 := hBW.trans (belowK_b (w := w) (Nat.le_refl _) W D _ (.deferred none) (by omega) hK rfl rfl)
    exact ⟨_, results16 _ _ _ _ _ _ _ _ _ _ rfl rfl rfl (cell_put g2 hK rfl) (cell_put g3 hK rfl) (cell_put g4 hK rfl), hB4, .inr ⟨pr, x, hS, hxe, rfl⟩⟩
end Go.Proofs.YtnmcjkabihihiaaDoor
