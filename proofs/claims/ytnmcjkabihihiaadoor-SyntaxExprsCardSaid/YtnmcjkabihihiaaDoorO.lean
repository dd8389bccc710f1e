/- The document's own words of a text: for every text and every memory. -/
import Derived.Test.YtnmcjkabihihiaaDoorN
import Derived.Test.YtnmcjkabihihiaaDoorZ
import Derived.OwnWalk
import Derived.Outline
namespace Go.Proofs.YtnmcjkabihihiaaDoor
open Go Go.RowKit

/-- The words ahead of the first fault, the fault's place or the end, the error. -/
def wordsR (s : ByteArray) : List Tok × Nat × Nat := if 65536 < s.size then ([], 0, 3) else scanL (bl s) 0
/-- What the document's Words answers. -/
def WordsRes (s : ByteArray) (w : World) (e : Ending) (w' : World) : Prop :=
  Below w.heap.size w w' ∧ ∃ (ys : List It) (q : Option Addr) (c : Nat), ys.map (fun x => x.key.1) = (wordsR s).1 ∧ (∀ x ∈ ys, x.e = 0) ∧
    e = .returned (.tuple #[.slice q ys.length c, .int .i64 ((wordsR s).2.1 : Nat), .int .i64 ((wordsR s).2.2 : Nat)]) ∧ w'.ownsRow w.heap.size 65 4 (.slice q ys.length c) ys.length (tokCells ys)

theorem words_long (s : ByteArray) (hs : 65536 < s.size) (w : World) : Calls Tryd.prog 27 #[.string s] w (WordsRes s w) := by
  have hr : wordsR s = ([], 0, 3) := if_pos hs
  have HR := Lib.hid hr
  clear hr
  go_enter Tryd.func27, Tryd.ntmps27
  go_wp2
  go_ret3
  exact ⟨Below.refl _ _, [], none, 0, by rw [HR.out]; rfl, fun x hx => absurd hx (by simp), by rw [HR.out]; rfl, World.ownsRow_nil _ _ _ _⟩

theorem info32 : ∃ i, Tryd.prog.info? 65 = some i ∧ i.zero = some (.agg #[.int .i64 0, .string ⟨#[]⟩, .int .i64 0, .int .i64 0]) ∧ i.size = 4 ∧ i.bytes = 40 := by
  have h : (Tryd.prog.info? 65).map (fun i => (i.zero, i.size, i.bytes)) = some (some (.agg #[.int .i64 0, .string ⟨#[]⟩, .int .i64 0, .int .i64 0]), 4, 40) := by kernel_rfl
  cases hi : Tryd.prog.info? 65 with
  | none => rw [hi] at h; cases h
  | some i =>
    rw [hi] at h
    simp only [Option.map_some, Option.some.injEq, Prod.mk.injEq] at h
    obtain ⟨e1, e2, e3⟩ := h
    exact ⟨i, rfl, e1, e2, e3⟩
theorem digits_of {l : List Nat} (h : (wordL l).2 = 3) : ∀ x ∈ l.take (wordL l).1, digitB x = true := by
  cases l with
  | nil => simp [wordL] at h
  | cons c r =>
    by_cases hl : letterB c = true
    · rw [wordL_letter hl] at h
      simp only at h
      split at h <;> omega
    · have hl : letterB c = false := by simpa using hl
      by_cases hd : digitB c = true
      · rw [wordL_digit hl hd]
        simp only
        rw [takeWhile_is_take]
        exact fun x hx => mem_takeWhile _ x hx
      · have hd : digitB c = false := by simpa using hd
        rw [wordL_mark hl hd] at h
        split at h
        · simp at h
        · split at h <;> simp at h

/-- Where the document's words stand: what has been found and what is still to be found. -/
structure RSt (s : ByteArray) (k : Nat) (ys : List It) : Prop where
  toks : ys.map (fun x => x.key.1) ++ (scanL ((bl s).drop k) k).1 = (scanL (bl s) 0).1
  rest : (scanL ((bl s).drop k) k).2 = (scanL (bl s) 0).2
  clean : ∀ x ∈ ys, x.e = 0
  len : ys.length ≤ k
theorem RSt.blank {s : ByteArray} {k : Nat} {ys : List It} (h : RSt s k ys) (hk : k < s.size) (hb : blankB (s[k]).toNat = true) : RSt s (k + 1) ys := by
  have h1 := h.toks
  have h2 := h.rest
  rw [head_at s k hk, scanL_blank _ _ hb] at h1 h2
  exact ⟨h1, h2, h.clean, by have := h.len; omega⟩
theorem RSt.comment {s : ByteArray} {k j : Nat} {ys : List It} (h : RSt s k ys) (hk : k < s.size) (hb : (s[k]).toNat = 35) (hj : (((bl s).drop k).takeWhile inC).length = j) : RSt s (k + j) ys := by
  have h1 := h.toks
  have h2 := h.rest
  have hd : ((bl s).drop k).dropWhile inC = (bl s).drop (k + j) := by rw [← drop_takeWhile, hj, List.drop_drop]
  have hc : scanL ((bl s).drop k) k = scanL ((bl s).drop (k + j)) (k + j) := by
    have := scan_comment ((bl s).drop (k + 1)) k
    rw [← hb, ← head_at s k hk, hd, hj] at this
    exact this
  rw [hc] at h1 h2
  exact ⟨h1, h2, h.clean, by have := h.len; omega⟩
theorem RSt.err {s : ByteArray} {k : Nat} {ys : List It} (h : RSt s k ys) (hk : k < s.size) (hb : blankB (s[k]).toNat = false) (h35 : (s[k]).toNat ≠ 35) (he : errL ((bl s).drop k) ≠ 0) :
    ys.map (fun x => x.key.1) = (scanL (bl s) 0).1 ∧ (scanL (bl s) 0).2 = (k, errL ((bl s).drop k)) := by
  have h1 := h.toks
  have h2 := h.rest
  rw [head_at s k hk] at h1 h2 he
  rw [scan_err k hb h35 he] at h1 h2
  rw [← head_at s k hk] at h2
  rw [List.append_nil] at h1
  exact ⟨h1, h2.symm⟩
theorem RSt.word {s : ByteArray} {k : Nat} {ys : List It} (h : RSt s k ys) (hk : k < s.size) (hb : blankB (s[k]).toNat = false) (h35 : (s[k]).toNat ≠ 35) (he : errL ((bl s).drop k) = 0) :
    RSt s (k + (wordL ((bl s).drop k)).1) (ys ++ [⟨(wordL ((bl s).drop k)).2, s.extract k (k + (wordL ((bl s).drop k)).1), valL ((bl s).drop k), k, 0⟩]) := by
  have h1 := h.toks
  have h2 := h.rest
  have hn := errL_word he
  have hx : (It.key ⟨(wordL ((bl s).drop k)).2, s.extract k (k + (wordL ((bl s).drop k)).1), valL ((bl s).drop k), k, 0⟩).1 = ⟨(wordL ((bl s).drop k)).2, ((bl s).drop k).take (wordL ((bl s).drop k)).1, valL ((bl s).drop k), k⟩ := by
    show Tok.mk _ (bl (s.extract k _)) _ _ = _
    rw [bl_cut]
  have hsc : scanL ((bl s).drop k) k = (⟨(wordL ((bl s).drop k)).2, ((bl s).drop k).take (wordL ((bl s).drop k)).1, valL ((bl s).drop k), k⟩ :: (scanL ((bl s).drop (k + (wordL ((bl s).drop k)).1)) (k + (wordL ((bl s).drop k)).1)).1, (scanL ((bl s).drop (k + (wordL ((bl s).drop k)).1)) (k + (wordL ((bl s).drop k)).1)).2) := by
    rw [← List.drop_drop]
    rw [head_at s k hk] at he ⊢
    exact scan_word k hb h35 he
  rw [hsc] at h1 h2
  refine ⟨?_, h2, fun x hm => ?_, ?_⟩
  · rw [List.map_append, List.map_cons, List.map_nil, hx, List.append_assoc]
    exact h1
  · rcases List.mem_append.1 hm with hm | hm
    · exact h.clean x hm
    · obtain rfl := List.mem_singleton.1 hm
      rfl
  · rw [List.length_append, List.length_singleton]
    have := h.len
    omega
theorem RSt.done {s : ByteArray} {k : Nat} {ys : List It} (h : RSt s k ys) (hk : s.size ≤ k) : ys.map (fun x => x.key.1) = (scanL (bl s) 0).1 ∧ (scanL (bl s) 0).2 = (k, 0) := by
  have h1 := h.toks
  have h2 := h.rest
  rw [List.drop_of_length_le (by rw [bl_length]; exact hk), scanL_nil] at h1 h2
  rw [List.append_nil] at h1
  exact ⟨h1, h2.symm⟩

set_option maxRecDepth 100000 in
set_option maxHeartbeats 4000000 in
theorem words_ok (s : ByteArray) (hs : s.size ≤ 65536) (w : World) : Calls Tryd.prog 27 #[.string s] w (WordsRes s w) := by
  obtain ⟨i0, hi, hz0, hz1, hz2⟩ := info32
  have HR := Lib.hid (show wordsR s = scanL (bl s) 0 from if_neg (by omega))
  go_enter Tryd.func27, Tryd.ntmps27
  go_wp2
  go_loopw [5, 6] (fun l a wr => ∃ (k : Nat) (ys : List It) (q : Option Addr) (c : Nat), k ≤ s.size ∧ a = .int .i64 k ∧ l = .slice q ys.length c ∧ wr.ownsRow w.heap.size 65 4 (.slice q ys.length c) ys.length (tokCells ys) ∧ Below w.heap.size w wr ∧ Hid (RSt s k ys)) (fun _ a _ => s.size - (intOf a).toNat)
  case atStart => exact ⟨0, [], none, 0, Nat.zero_le _, rfl, rfl, World.ownsRow_nil _ _ _ _, Below.refl _ _, Lib.hid ⟨by rw [List.drop_zero]; rfl, by rw [List.drop_zero], fun x hx => absurd hx (by simp), Nat.le_refl _⟩⟩
  case round =>
    obtain ⟨k, ys, q, c, hk, rfl, rfl, hrow, hB, HS⟩ := hrel
    by_cases hlt : k < s.size
    · have hbl := blank_any (s[k]).toNat wr
      by_cases hb : blankB (s[k]).toNat = true
      · rw [hb] at hbl
        have HB := Lib.hid hbl
        have HN := Lib.hid (HS.out.blank hlt hb)
        clear hbl hb HS
        go_wp2_with (go_at_call 40; refine HB.out.mono ?_; rintro e w' ⟨rfl, rfl⟩)
        exact ⟨⟨k + 1, ys, q, c, by omega, by go_num, rfl, hrow, hB, HN⟩, by simp [intOf]; omega⟩
      · have hb : blankB (s[k]).toNat = false := by simpa using hb
        rw [hb] at hbl
        have HB := Lib.hid hbl
        have HBB := Lib.hid hb
        clear hbl hb
        by_cases h35 : (s[k]).toNat = 35
        · have n35 : (((s[k]).toNat : Int) == 35) = true := by simp; omega
          have H35 := Lib.hid h35
          clear h35
          obtain ⟨wo, rfl⟩ : ∃ wo : World, wo = wr := ⟨_, rfl⟩
          go_wp2_with (go_at_call 40; refine HB.out.mono ?_; rintro e w' ⟨rfl, rfl⟩)
          go_loop [6] (fun i => ∃ m : Nat, k ≤ m ∧ m ≤ s.size ∧ i = .int .i64 m ∧ Hid (∀ x ∈ ((bl s).drop k).take (m - k), inC x = true)) (fun i => s.size - (intOf i).toNat)
          case atStart => exact ⟨k, Nat.le_refl _, hk, rfl, Lib.hid (by simp)⟩
          case round =>
            obtain ⟨m, hkm, hm, rfl, HI⟩ := hrel
            have HO := Lib.hid (fun (hl : (((bl s).drop k).takeWhile inC).length = m - k) => And.intro (show RSt s m ys by
              have := HS.out.comment hlt H35.out hl
              rwa [show k + (m - k) = m by omega] at this) (show k < m by
              rw [head_at s k hlt, List.takeWhile_cons, if_pos (by rw [H35.out]; rfl), List.length_cons] at hl; omega))
            by_cases hlm : m < s.size
            · have hbm := bl_at s k (m - k) (by omega)
              have hidx : s[k + (m - k)]'(by omega) = s[m] := by congr 1; omega
              rw [hidx] at hbm
              have hmi : (m : Int) < (s.size : Int) := by omega
              by_cases h10 : (s[m]).toNat = 10
              · have n10 : (((s[m]).toNat : Int) != 10) = false := by rw [h10]; rfl
                obtain ⟨g1, g2⟩ := HO.out (run_stop _ (m - k) HI.out _ hbm (by rw [h10]; rfl))
                have HG := Lib.hid g1
                clear hbm hidx h10 HO HI g1
                go_wp2
                exact ⟨⟨m, ys, q, c, by omega, rfl, rfl, hrow, hB, HG⟩, by simp [intOf]; omega⟩
              · have n10 : (((s[m]).toNat : Int) != 10) = true := by simp; omega
                have hst := run_step _ (m - k) HI.out _ hbm (by unfold inC; simpa using h10)
                rw [show m - k + 1 = m + 1 - k by omega] at hst
                have HN := Lib.hid hst
                clear hbm hidx h10 HO HI hst
                go_wp2
                go_round
                case rel => exact ⟨m + 1, by omega, by omega, by go_num, HN⟩
                case measure => simp [intOf]; omega
            · have hmi : ¬ (m : Int) < (s.size : Int) := by omega
              obtain ⟨g1, g2⟩ := HO.out (run_stop_len HI.out (by omega))
              have HG := Lib.hid g1
              clear HO HI g1
              go_wp2
              exact ⟨⟨m, ys, q, c, by omega, rfl, rfl, hrow, hB, HG⟩, by simp [intOf]; omega⟩
        · have n35 : (((s[k]).toNat : Int) == 35) = false := by simp; omega
          have hwc := word_any s k hlt (by omega) wr
          have hcut := bl_cut s k (wordL ((bl s).drop k)).1
          have herr := fun he => HS.out.err hlt HBB.out h35 he
          have hword := fun he => HS.out.word hlt HBB.out h35 he
          have hwle := wordL_le ((bl s).drop k)
          rw [List.length_drop, bl_length] at hwle
          have hdig := digits_of (l := (bl s).drop k)
          have hlen := HS.out.len
          have hcl := HS.out.clean
          unfold errL at herr hword
          unfold valL at hword
          unfold WordRes at hwc
          generalize (wordL ((bl s).drop k)).1 = nn at *
          generalize (wordL ((bl s).drop k)).2 = kd at *
          have HWC := Lib.hid hwc
          have HERR := Lib.hid herr
          have HWORD := Lib.hid hword
          have HDIG := Lib.hid hdig
          have HCUT := Lib.hid hcut
          have HCL := Lib.hid hcl
          clear hwc herr hword hdig hcut h35 HBB HS hcl
          by_cases hn0 : nn = 0
          · have hr := HERR.out (by rw [if_pos hn0]; decide)
            rw [if_pos hn0] at hr
            have HRR := Lib.hid hr
            subst hn0
            clear hr HERR HWORD HDIG HCUT
            go_wp2_with (first | (go_at_call 40; refine HB.out.mono ?_; rintro e w' ⟨rfl, rfl⟩) | (go_at_call 41; refine HWC.out.mono ?_))
            rintro e w1 ⟨rfl, hb1⟩
            go_wp2
            have hrow1 := hrow.kept (grown_of_below hb1) (by cases q <;> simp [Value.ownBlock])
            go_ret3
            exact ⟨hB.trans (hb1.mono hB.size), ys, q, c, by rw [HR.out]; exact HRR.out.1, HCL.out, by rw [HR.out, HRR.out.2]; rfl, hrow1⟩
          · have hnz : (((nn : Nat) : Int) == 0) = false := by simp; omega
            have j0 : ((k : Int) + (nn : Int)).toNat = k + nn := by omega
            have j1 : (k : Int) ≤ (k : Int) + (nn : Int) := by omega
            have j2 : (k : Int) + (nn : Int) ≤ (s.size : Int) := by omega
            have hext : (s.extract k (k + nn)).size = nn := by simp; omega
            have hnp : 0 < nn := by omega
            by_cases hk1 : kd = 1
            · subst hk1
              by_cases h32 : 32 < nn
              · have hr := HERR.out (by rw [if_neg hn0, if_pos ⟨rfl, h32⟩]; decide)
                rw [if_neg hn0, if_pos ⟨rfl, h32⟩] at hr
                have HRR := Lib.hid hr
                clear hr HERR HWORD HDIG HCUT hn0 hext
                go_wp2_with (first | (go_at_call 40; refine HB.out.mono ?_; rintro e w' ⟨rfl, rfl⟩) | (go_at_call 41; refine HWC.out.mono ?_))
                rintro e w1 ⟨rfl, hb1⟩
                have hrow1 := hrow.kept (grown_of_below hb1) (by cases q <;> simp [Value.ownBlock])
                have hB1 := hB.trans (hb1.mono hB.size)
                go_wp2
                go_ret3
                exact ⟨hB1.alloc hB1.size _, ys, q, c, by rw [HR.out]; exact HRR.out.1, HCL.out, by rw [HR.out, HRR.out.2]; rfl, hrow1.alloc _⟩
              · have hw := HWORD.out (by rw [if_neg hn0, if_neg (fun h => h32 h.2), if_neg (by omega)])
                rw [if_neg (by omega)] at hw
                have HNX := Lib.hid hw
                clear hw HERR HWORD HDIG HCUT hn0 hext
                go_wp2_with (first | (go_at_call 40; refine HB.out.mono ?_; rintro e w' ⟨rfl, rfl⟩) | (go_at_call 41; refine HWC.out.mono ?_))
                rintro e w1 ⟨rfl, hb1⟩
                have hrow1 := hrow.kept (grown_of_below hb1) (by cases q <;> simp [Value.ownBlock])
                have hB1 := hB.trans (hb1.mono hB.size)
                clear hrow hB
                go_wp2_with (at_builtin; refine wpList_append_own _ rfl _ _ 36 rfl w.heap.size 65 i0 _ 4 40 Tryd.underlying36 hi hz0 hz1 hz2 rfl (by decide) _ _ _ rfl ((hrow1.alloc _).alloc _) ⟨w1.heap.size + 1, 0, none⟩ 1 1 [.int .i64 1, .string (s.extract k (k + nn)), .int .i64 0, .int .i64 (k : Nat)] rfl rfl ?c1 ?c2 ?c3 ?c4 ?c5 ?_)
                case c1 =>
                  have := row_new (w1.alloc (.cells #[.int .i64 1, .string (s.extract k (k + nn)), .int .i64 0, .int .i64 (k : Nat)] 65)) [.int .i64 1, .string (s.extract k (k + nn)), .int .i64 0, .int .i64 (k : Nat)] 65
                  rwa [World.size_alloc] at this
                case c2 =>
                  intro u hu
                  rcases List.mem_cons.1 hu with rfl | hu
                  · rfl
                  rcases List.mem_cons.1 hu with rfl | hu
                  · rfl
                  rcases List.mem_cons.1 hu with rfl | hu
                  · rfl
                  rcases List.mem_cons.1 hu with rfl | hu
                  · rfl
                  · exact absurd hu (by simp)
                case c3 => unfold maxLen; omega
                case c4 => omega
                case c5 => have := hB1.size; simp; omega
                intro v' w9 hown9 hgrow9 _
                obtain ⟨g', cap', rfl⟩ := ownsRow_succ hown9
                have hB9 : Below w.heap.size w w9 := ((hB1.alloc hB1.size _).alloc (by have := hB1.size; simp; omega) _).grown hgrow9 (by have := hB1.size; simp; omega) (fun j hj => by have := (hrow1.lt j hj).1; omega)
                go_wp2
                exact ⟨⟨k + nn, ys ++ [⟨1, s.extract k (k + nn), 0, k, 0⟩], some ⟨g', 0, none⟩, cap', by omega, by rw [Int.natCast_add], by rw [List.length_append]; rfl, by rw [List.length_append, tokCells_snoc]; exact hown9, hB9, HNX⟩, by rw [show (intOf (Value.int .i64 ((k : Int) + (nn : Int)))).toNat = k + nn from j0]; simp [intOf]; omega⟩
            · have hk1b : (((kd : Nat) : Int) == 1) = false := by simp; omega
              by_cases hk3 : kd = 3
              · subst hk3
                have hdg := HDIG.out rfl
                rw [← HCUT.out] at hdg
                have hval := fun W => value_any (s.extract k (k + nn)) (by omega) hdg W
                unfold ValRes at hval
                rw [HCUT.out] at hval
                generalize ((bl s).drop k).take nn = dd at *
                by_cases hm : most < valD dd
                · have hr := HERR.out (by rw [if_neg hn0, if_neg (by omega), if_pos ⟨rfl, hm⟩]; decide)
                  rw [if_neg hn0, if_neg (by omega), if_pos ⟨rfl, hm⟩] at hr
                  rw [if_neg (by omega), decide_eq_false (by omega)] at hval
                  have HRR := Lib.hid hr
                  have HV := Lib.hid hval
                  clear hr hval HERR HWORD HDIG HCUT hn0 hext hdg hm hk1
                  go_wp2_with (first | (go_at_call 40; refine HB.out.mono ?_; rintro e w' ⟨rfl, rfl⟩) | (go_at_call 41; refine HWC.out.mono ?_))
                  rintro e w1 ⟨rfl, hb1⟩
                  have hrow1 := hrow.kept (grown_of_below hb1) (by cases q <;> simp [Value.ownBlock])
                  have hB1 := hB.trans (hb1.mono hB.size)
                  go_wp2_with (go_at_call 42; refine (HV.out _).mono ?_; rintro e w' ⟨rfl, rfl⟩)
                  go_ret3
                  exact ⟨hB1.alloc hB1.size _, ys, q, c, by rw [HR.out]; exact HRR.out.1, HCL.out, by rw [HR.out, HRR.out.2]; rfl, hrow1.alloc _⟩
                · have hw := HWORD.out (by rw [if_neg hn0, if_neg (by omega), if_neg (fun h => hm h.2)])
                  rw [if_pos rfl] at hw
                  rw [if_pos (by omega), decide_eq_true (by omega)] at hval
                  generalize valD dd = vv at *
                  have HNX := Lib.hid hw
                  have HV := Lib.hid hval
                  clear hw hval HERR HWORD HDIG HCUT hn0 hext hdg hm hk1
                  go_wp2_with (first | (go_at_call 40; refine HB.out.mono ?_; rintro e w' ⟨rfl, rfl⟩) | (go_at_call 41; refine HWC.out.mono ?_))
                  rintro e w1 ⟨rfl, hb1⟩
                  have hrow1 := hrow.kept (grown_of_below hb1) (by cases q <;> simp [Value.ownBlock])
                  have hB1 := hB.trans (hb1.mono hB.size)
                  clear hrow hB
                  go_wp2_with (first | (go_at_call 42; refine (HV.out _).mono ?_; rintro e w' ⟨rfl, rfl⟩) | (at_builtin; refine wpList_append_own _ rfl _ _ 36 rfl w.heap.size 65 i0 _ 4 40 Tryd.underlying36 hi hz0 hz1 hz2 rfl (by decide) _ _ _ rfl ((hrow1.alloc _).alloc _) ⟨w1.heap.size + 1, 0, none⟩ 1 1 [.int .i64 3, .string (s.extract k (k + nn)), .int .i64 (vv : Nat), .int .i64 (k : Nat)] rfl rfl ?c1 ?c2 ?c3 ?c4 ?c5 ?_))
                  case c1 =>
                    have := row_new (w1.alloc (.cells #[.int .i64 3, .string (s.extract k (k + nn)), .int .i64 (vv : Nat), .int .i64 (k : Nat)] 65)) [.int .i64 3, .string (s.extract k (k + nn)), .int .i64 (vv : Nat), .int .i64 (k : Nat)] 65
                    rwa [World.size_alloc] at this
                  case c2 =>
                    intro u hu
                    rcases List.mem_cons.1 hu with rfl | hu
                    · rfl
                    rcases List.mem_cons.1 hu with rfl | hu
                    · rfl
                    rcases List.mem_cons.1 hu with rfl | hu
                    · rfl
                    rcases List.mem_cons.1 hu with rfl | hu
                    · rfl
                    · exact absurd hu (by simp)
                  case c3 => unfold maxLen; omega
                  case c4 => omega
                  case c5 => have := hB1.size; simp; omega
                  intro v' w9 hown9 hgrow9 _
                  obtain ⟨g', cap', rfl⟩ := ownsRow_succ hown9
                  have hB9 : Below w.heap.size w w9 := ((hB1.alloc hB1.size _).alloc (by have := hB1.size; simp; omega) _).grown hgrow9 (by have := hB1.size; simp; omega) (fun j hj => by have := (hrow1.lt j hj).1; omega)
                  go_wp2
                  exact ⟨⟨k + nn, ys ++ [⟨3, s.extract k (k + nn), vv, k, 0⟩], some ⟨g', 0, none⟩, cap', by omega, by rw [Int.natCast_add], by rw [List.length_append]; rfl, by rw [List.length_append, tokCells_snoc]; exact hown9, hB9, HNX⟩, by rw [show (intOf (Value.int .i64 ((k : Int) + (nn : Int)))).toNat = k + nn from j0]; simp [intOf]; omega⟩
              · have hk3b : (((kd : Nat) : Int) == 3) = false := by simp; omega
                have hw := HWORD.out (by rw [if_neg hn0, if_neg (fun h => hk1 h.1), if_neg (fun h => hk3 h.1)])
                rw [if_neg hk3] at hw
                have HNX := Lib.hid hw
                clear hw HERR HWORD HDIG HCUT hn0 hext hk1 hk3
                go_wp2_with (first | (go_at_call 40; refine HB.out.mono ?_; rintro e w' ⟨rfl, rfl⟩) | (go_at_call 41; refine HWC.out.mono ?_))
                rintro e w1 ⟨rfl, hb1⟩
                have hrow1 := hrow.kept (grown_of_below hb1) (by cases q <;> simp [Value.ownBlock])
                have hB1 := hB.trans (hb1.mono hB.size)
                clear hrow hB
                go_wp2_with (at_builtin; refine wpList_append_own _ rfl _ _ 36 rfl w.heap.size 65 i0 _ 4 40 Tryd.underlying36 hi hz0 hz1 hz2 rfl (by decide) _ _ _ rfl ((hrow1.alloc _).alloc _) ⟨w1.heap.size + 1, 0, none⟩ 1 1 [.int .i64 (kd : Nat), .string (s.extract k (k + nn)), .int .i64 0, .int .i64 (k : Nat)] rfl rfl ?c1 ?c2 ?c3 ?c4 ?c5 ?_)
                case c1 =>
                  have := row_new (w1.alloc (.cells #[.int .i64 (kd : Nat), .string (s.extract k (k + nn)), .int .i64 0, .int .i64 (k : Nat)] 65)) [.int .i64 (kd : Nat), .string (s.extract k (k + nn)), .int .i64 0, .int .i64 (k : Nat)] 65
                  rwa [World.size_alloc] at this
                case c2 =>
                  intro u hu
                  rcases List.mem_cons.1 hu with rfl | hu
                  · rfl
                  rcases List.mem_cons.1 hu with rfl | hu
                  · rfl
                  rcases List.mem_cons.1 hu with rfl | hu
                  · rfl
                  rcases List.mem_cons.1 hu with rfl | hu
                  · rfl
                  · exact absurd hu (by simp)
                case c3 => unfold maxLen; omega
                case c4 => omega
                case c5 => have := hB1.size; simp; omega
                intro v' w9 hown9 hgrow9 _
                obtain ⟨g', cap', rfl⟩ := ownsRow_succ hown9
                have hB9 : Below w.heap.size w w9 := ((hB1.alloc hB1.size _).alloc (by have := hB1.size; simp; omega) _).grown hgrow9 (by have := hB1.size; simp; omega) (fun j hj => by have := (hrow1.lt j hj).1; omega)
                go_wp2
                exact ⟨⟨k + nn, ys ++ [⟨kd, s.extract k (k + nn), 0, k, 0⟩], some ⟨g', 0, none⟩, cap', by omega, by rw [Int.natCast_add], by rw [List.length_append]; rfl, by rw [List.length_append, tokCells_snoc]; exact hown9, hB9, HNX⟩, by rw [show (intOf (Value.int .i64 ((k : Int) + (nn : Int)))).toNat = k + nn from j0]; simp [intOf]; omega⟩
    · obtain ⟨f1, f2⟩ := HS.out.done (by omega)
      have HF := Lib.hid (And.intro f1 f2)
      have HC := Lib.hid HS.out.clean
      clear f1 f2 HS
      go_wp2
      go_ret3
      refine ⟨hB, ys, q, c, by rw [HR.out]; exact HF.out.1, HC.out, by rw [HR.out, HF.out.2]; rfl, hrow⟩
end Go.Proofs.YtnmcjkabihihiaaDoor
