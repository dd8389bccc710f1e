/- The document's own words of a text: for every text and every memory. -/
import Derived.Test.YtnmcjkabihihiaaGreatDoorReadsPR5
import Derived.Test.YtnmcjkabihihiaaGreatDoorQ2
import Derived.OwnWalk
import Derived.Outline
import Derived.Test.YtnmcjkabihihiaaGreatDoorReadsPR2
import Derived.Test.YtnmcjkabihihiaaGreatDoorQ16
import Derived.Deep.Cut
import Derived.BigRegion
import Derived.Test.YtnmcjkabihihiaaGreatDoorQ1
import Derived.Test.YtnmcjkabihihiaaGreatDoorTie
import Derived.Test.YtnmcjkabihihiaaGreatDoorCards
import Derived.ProofKit
import Derived.OpenShut
import Derived.LaidMore
import Derived.Lay
import Derived.SizedLaws
import Derived.ChangeMaps5
import Derived.SevenTiedAt
import Derived.Stop.Joined
import Derived.Stop.LaidErr
import Derived.Stop.ErrReads
import Derived.PinnedBridge
import Derived.Lib.LaidU8T
namespace Go.Proofs.YtnmcjkabihihiaaGreatDoor
open Go Go.RowKit

/-- The words ahead of the first fault, the fault's place or the end, the error. -/
def wordsR (s : ByteArray) : List Tok × Nat × Nat := if 65536 < s.size then ([], 0, 3) else scanL (bl s) 0
/-- What the document's Words answers. -/
def WordsRes (s : ByteArray) (w : World) (e : Ending) (w' : World) : Prop :=
  Below w.heap.size w w' ∧ ∃ (ys : List It) (q : Option Addr) (c : Nat), ys.map (fun x => x.key.1) = (wordsR s).1 ∧ (∀ x ∈ ys, x.e = 0) ∧
    e = .returned (.tuple #[.slice q ys.length c, .int .i64 ((wordsR s).2.1 : Nat), .int .i64 ((wordsR s).2.2 : Nat)]) ∧ w'.ownsRow w.heap.size 104 4 (.slice q ys.length c) ys.length (tokCells ys)

theorem words_long (s : ByteArray) (hs : 65536 < s.size) (w : World) : Calls Tryz.prog 67 #[.string s] w (WordsRes s w) := by
  have hr : wordsR s = ([], 0, 3) := if_pos hs
  have HR := Lib.hid hr
  clear hr
  go_enter Tryz.func67, Tryz.ntmps67
  go_wp2
  go_ret3
  exact ⟨Below.refl _ _, [], none, 0, by rw [HR.out]; rfl, fun x hx => absurd hx (by simp), by rw [HR.out]; rfl, World.ownsRow_nil _ _ _ _⟩

theorem info32 : ∃ i, Tryz.prog.info? 104 = some i ∧ i.zero = some (.agg #[.int .i64 0, .string ⟨#[]⟩, .int .i64 0, .int .i64 0]) ∧ i.size = 4 ∧ i.bytes = 40 := by
  have h : (Tryz.prog.info? 104).map (fun i => (i.zero, i.size, i.bytes)) = some (some (.agg #[.int .i64 0, .string ⟨#[]⟩, .int .i64 0, .int .i64 0]), 4, 40) := by kernel_rfl
  cases hi : Tryz.prog.info? 104 with
  | none => rw [hi] at h; cases h
  | some i =>
    rw [hi] at h
    simp only [Option.map_some, Option.some.injEq, Prod.mk.injEq] at h
    obtain ⟨e1, e2, e3⟩ := h
    exact ⟨i, rfl, e1, e2, e3⟩
theorem digits_of {l : List Nat} (h : (wordL l).2 = 3) : ∀ x ∈ l.take (wordL l).1, digitB x = true := by
  cases l with
  | nil => simp [wordL] at h
  | cons c r =>
    by_cases hl : letterB c = true
    · rw [wordL_letter hl] at h
      simp only at h
      split at h <;> omega
    · have hl : letterB c = false := by simpa using hl
      by_cases hd : digitB c = true
      · rw [wordL_digit hl hd]
        simp only
        rw [takeWhile_is_take]
        exact fun x hx => mem_takeWhile _ x hx
      · have hd : digitB c = false := by simpa using hd
        rw [wordL_mark hl hd] at h
        split at h
        · simp at h
        · split at h <;> simp at h

/-- Where the document's words stand: what has been found and what is still to be found. -/
structure RSt (s : ByteArray) (k : Nat) (ys : List It) : Prop where
  toks : ys.map (fun x => x.key.1) ++ (scanL ((bl s).drop k) k).1 = (scanL (bl s) 0).1
  rest : (scanL ((bl s).drop k) k).2 = (scanL (bl s) 0).2
  clean : ∀ x ∈ ys, x.e = 0
  len : ys.length ≤ k
theorem RSt.blank {s : ByteArray} {k : Nat} {ys : List It} (h : RSt s k ys) (hk : k < s.size) (hb : blankB (s[k]).toNat = true) : RSt s (k + 1) ys := by
  have h1 := h.toks
  have h2 := h.rest
  rw [head_at s k hk, scanL_blank _ _ hb] at h1 h2
  exact ⟨h1, h2, h.clean, by have := h.len; omega⟩
theorem RSt.comment {s : ByteArray} {k j : Nat} {ys : List It} (h : RSt s k ys) (hk : k < s.size) (hb : (s[k]).toNat = 35) (hj : (((bl s).drop k).takeWhile inC).length = j) : RSt s (k + j) ys := by
  have h1 := h.toks
  have h2 := h.rest
  have hd : ((bl s).drop k).dropWhile inC = (bl s).drop (k + j) := by rw [← drop_takeWhile, hj, List.drop_drop]
  have hc : scanL ((bl s).drop k) k = scanL ((bl s).drop (k + j)) (k + j) := by
    have := scan_comment ((bl s).drop (k + 1)) k
    rw [← hb, ← head_at s k hk, hd, hj] at this
    exact this
  rw [hc] at h1 h2
  exact ⟨h1, h2, h.clean, by have := h.len; omega⟩
theorem RSt.err {s : ByteArray} {k : Nat} {ys : List It} (h : RSt s k ys) (hk : k < s.size) (hb : blankB (s[k]).toNat = false) (h35 : (s[k]).toNat ≠ 35) (he : errL ((bl s).drop k) ≠ 0) :
    ys.map (fun x => x.key.1) = (scanL (bl s) 0).1 ∧ (scanL (bl s) 0).2 = (k, errL ((bl s).drop k)) := by
  have h1 := h.toks
  have h2 := h.rest
  rw [head_at s k hk] at h1 h2 he
  rw [scan_err k hb h35 he] at h1 h2
  rw [← head_at s k hk] at h2
  rw [List.append_nil] at h1
  exact ⟨h1, h2.symm⟩
theorem RSt.word {s : ByteArray} {k : Nat} {ys : List It} (h : RSt s k ys) (hk : k < s.size) (hb : blankB (s[k]).toNat = false) (h35 : (s[k]).toNat ≠ 35) (he : errL ((bl s).drop k) = 0) :
    RSt s (k + (wordL ((bl s).drop k)).1) (ys ++ [⟨(wordL ((bl s).drop k)).2, s.extract k (k + (wordL ((bl s).drop k)).1), valL ((bl s).drop k), k, 0⟩]) := by
  have h1 := h.toks
  have h2 := h.rest
  have hn := errL_word he
  have hx : (It.key ⟨(wordL ((bl s).drop k)).2, s.extract k (k + (wordL ((bl s).drop k)).1), valL ((bl s).drop k), k, 0⟩).1 = ⟨(wordL ((bl s).drop k)).2, ((bl s).drop k).take (wordL ((bl s).drop k)).1, valL ((bl s).drop k), k⟩ := by
    show Tok.mk _ (bl (s.extract k _)) _ _ = _
    rw [bl_cut]
  have hsc : scanL ((bl s).drop k) k = (⟨(wordL ((bl s).drop k)).2, ((bl s).drop k).take (wordL ((bl s).drop k)).1, valL ((bl s).drop k), k⟩ :: (scanL ((bl s).drop (k + (wordL ((bl s).drop k)).1)) (k + (wordL ((bl s).drop k)).1)).1, (scanL ((bl s).drop (k + (wordL ((bl s).drop k)).1)) (k + (wordL ((bl s).drop k)).1)).2) := by
    rw [← List.drop_drop]
    rw [head_at s k hk] at he ⊢
    exact scan_word k hb h35 he
  rw [hsc] at h1 h2
  refine ⟨?_, h2, fun x hm => ?_, ?_⟩
  · rw [List.map_append, List.map_cons, List.map_nil, hx, List.append_assoc]
    exact h1
  · rcases List.mem_append.1 hm with hm | hm
    · exact h.clean x hm
    · obtain rfl := List.mem_singleton.1 hm
      rfl
  · rw [List.length_append, List.length_singleton]
    have := h.len
    omega
theorem RSt.done {s : ByteArray} {k : Nat} {ys : List It} (h : RSt s k ys) (hk : s.size ≤ k) : ys.map (fun x => x.key.1) = (scanL (bl s) 0).1 ∧ (scanL (bl s) 0).2 = (k, 0) := by
  have h1 := h.toks
  have h2 := h.rest
  rw [List.drop_of_length_le (by rw [bl_length]; exact hk), scanL_nil] at h1 h2
  rw [List.append_nil] at h1
  exact ⟨h1, h2.symm⟩

set_option maxRecDepth 100000 in
set_option maxHeartbeats 4000000 in
theorem words_ok (s : ByteArray) (hs : s.size ≤ 65536) (w : World) : Calls Tryz.prog 67 #[.string s] w (WordsRes s w) := by
  obtain ⟨i0, hi, hz0, hz1, hz2⟩ := info32
  have HR := Lib.hid (show wordsR s = scanL (bl s) 0 from if_neg (by omega))
  go_enter Tryz.func67, Tryz.ntmps67
  go_wp2
  go_loopw [5, 6] (fun l a wr => ∃ (k : Nat) (ys : List It) (q : Option Addr) (c : Nat), k ≤ s.size ∧ a = .int .i64 k ∧ l = .slice q ys.length c ∧ wr.ownsRow w.heap.size 104 4 (.slice q ys.length c) ys.length (tokCells ys) ∧ Below w.heap.size w wr ∧ Hid (RSt s k ys)) (fun _ a _ => s.size - (intOf a).toNat)
  case atStart => exact ⟨0, [], none, 0, Nat.zero_le _, rfl, rfl, World.ownsRow_nil _ _ _ _, Below.refl _ _, Lib.hid ⟨by rw [List.drop_zero]; rfl, by rw [List.drop_zero], fun x hx => absurd hx (by simp), Nat.le_refl _⟩⟩
  case round =>
    obtain ⟨k, ys, q, c, hk, rfl, rfl, hrow, hB, HS⟩ := hrel
    by_cases hlt : k < s.size
    · have hbl := blank_any (s[k]).toNat wr
      by_cases hb : blankB (s[k]).toNat = true
      · rw [hb] at hbl
        have HB := Lib.hid hbl
        have HN := Lib.hid (HS.out.blank hlt hb)
        clear hbl hb HS
        go_wp2_with (go_at_call 86; refine HB.out.mono ?_; rintro e w' ⟨rfl, rfl⟩)
        exact ⟨⟨k + 1, ys, q, c, by omega, by go_num, rfl, hrow, hB, HN⟩, by simp [intOf]; omega⟩
      · have hb : blankB (s[k]).toNat = false := by simpa using hb
        rw [hb] at hbl
        have HB := Lib.hid hbl
        have HBB := Lib.hid hb
        clear hbl hb
        by_cases h35 : (s[k]).toNat = 35
        · have n35 : (((s[k]).toNat : Int) == 35) = true := by simp; omega
          have H35 := Lib.hid h35
          clear h35
          obtain ⟨wo, rfl⟩ : ∃ wo : World, wo = wr := ⟨_, rfl⟩
          go_wp2_with (go_at_call 86; refine HB.out.mono ?_; rintro e w' ⟨rfl, rfl⟩)
          go_loop [6] (fun i => ∃ m : Nat, k ≤ m ∧ m ≤ s.size ∧ i = .int .i64 m ∧ Hid (∀ x ∈ ((bl s).drop k).take (m - k), inC x = true)) (fun i => s.size - (intOf i).toNat)
          case atStart => exact ⟨k, Nat.le_refl _, hk, rfl, Lib.hid (by simp)⟩
          case round =>
            obtain ⟨m, hkm, hm, rfl, HI⟩ := hrel
            have HO := Lib.hid (fun (hl : (((bl s).drop k).takeWhile inC).length = m - k) => And.intro (show RSt s m ys by
              have := HS.out.comment hlt H35.out hl
              rwa [show k + (m - k) = m by omega] at this) (show k < m by
              rw [head_at s k hlt, List.takeWhile_cons, if_pos (by rw [H35.out]; rfl), List.length_cons] at hl; omega))
            by_cases hlm : m < s.size
            · have hbm := bl_at s k (m - k) (by omega)
              have hidx : s[k + (m - k)]'(by omega) = s[m] := by congr 1; omega
              rw [hidx] at hbm
              have hmi : (m : Int) < (s.size : Int) := by omega
              by_cases h10 : (s[m]).toNat = 10
              · have n10 : (((s[m]).toNat : Int) != 10) = false := by rw [h10]; rfl
                obtain ⟨g1, g2⟩ := HO.out (run_stop _ (m - k) HI.out _ hbm (by rw [h10]; rfl))
                have HG := Lib.hid g1
                clear hbm hidx h10 HO HI g1
                go_wp2
                exact ⟨⟨m, ys, q, c, by omega, rfl, rfl, hrow, hB, HG⟩, by simp [intOf]; omega⟩
              · have n10 : (((s[m]).toNat : Int) != 10) = true := by simp; omega
                have hst := run_step _ (m - k) HI.out _ hbm (by unfold inC; simpa using h10)
                rw [show m - k + 1 = m + 1 - k by omega] at hst
                have HN := Lib.hid hst
                clear hbm hidx h10 HO HI hst
                go_wp2
                go_round
                case rel => exact ⟨m + 1, by omega, by omega, by go_num, HN⟩
                case measure => simp [intOf]; omega
            · have hmi : ¬ (m : Int) < (s.size : Int) := by omega
              obtain ⟨g1, g2⟩ := HO.out (run_stop_len HI.out (by omega))
              have HG := Lib.hid g1
              clear HO HI g1
              go_wp2
              exact ⟨⟨m, ys, q, c, by omega, rfl, rfl, hrow, hB, HG⟩, by simp [intOf]; omega⟩
        · have n35 : (((s[k]).toNat : Int) == 35) = false := by simp; omega
          have hwc := word_any s k hlt (by omega) wr
          have hcut := bl_cut s k (wordL ((bl s).drop k)).1
          have herr := fun he => HS.out.err hlt HBB.out h35 he
          have hword := fun he => HS.out.word hlt HBB.out h35 he
          have hwle := wordL_le ((bl s).drop k)
          rw [List.length_drop, bl_length] at hwle
          have hdig := digits_of (l := (bl s).drop k)
          have hlen := HS.out.len
          have hcl := HS.out.clean
          unfold errL at herr hword
          unfold valL at hword
          unfold WordRes at hwc
          generalize (wordL ((bl s).drop k)).1 = nn at *
          generalize (wordL ((bl s).drop k)).2 = kd at *
          have HWC := Lib.hid hwc
          have HERR := Lib.hid herr
          have HWORD := Lib.hid hword
          have HDIG := Lib.hid hdig
          have HCUT := Lib.hid hcut
          have HCL := Lib.hid hcl
          clear hwc herr hword hdig hcut h35 HBB HS hcl
          by_cases hn0 : nn = 0
          · have hr := HERR.out (by rw [if_pos hn0]; decide)
            rw [if_pos hn0] at hr
            have HRR := Lib.hid hr
            subst hn0
            clear hr HERR HWORD HDIG HCUT
            go_wp2_with (first | (go_at_call 86; refine HB.out.mono ?_; rintro e w' ⟨rfl, rfl⟩) | (go_at_call 87; refine HWC.out.mono ?_))
            rintro e w1 ⟨rfl, hb1⟩
            go_wp2
            have hrow1 := hrow.kept (grown_of_below hb1) (by cases q <;> simp [Value.ownBlock])
            go_ret3
            exact ⟨hB.trans (hb1.mono hB.size), ys, q, c, by rw [HR.out]; exact HRR.out.1, HCL.out, by rw [HR.out, HRR.out.2]; rfl, hrow1⟩
          · have hnz : (((nn : Nat) : Int) == 0) = false := by simp; omega
            have j0 : ((k : Int) + (nn : Int)).toNat = k + nn := by omega
            have j1 : (k : Int) ≤ (k : Int) + (nn : Int) := by omega
            have j2 : (k : Int) + (nn : Int) ≤ (s.size : Int) := by omega
            have hext : (s.extract k (k + nn)).size = nn := by simp; omega
            have hnp : 0 < nn := by omega
            by_cases hk1 : kd = 1
            · subst hk1
              by_cases h32 : 32 < nn
              · have hr := HERR.out (by rw [if_neg hn0, if_pos ⟨rfl, h32⟩]; decide)
                rw [if_neg hn0, if_pos ⟨rfl, h32⟩] at hr
                have HRR := Lib.hid hr
                clear hr HERR HWORD HDIG HCUT hn0 hext
                go_wp2_with (first | (go_at_call 86; refine HB.out.mono ?_; rintro e w' ⟨rfl, rfl⟩) | (go_at_call 87; refine HWC.out.mono ?_))
                rintro e w1 ⟨rfl, hb1⟩
                have hrow1 := hrow.kept (grown_of_below hb1) (by cases q <;> simp [Value.ownBlock])
                have hB1 := hB.trans (hb1.mono hB.size)
                go_wp2
                go_ret3
                exact ⟨hB1.alloc hB1.size _, ys, q, c, by rw [HR.out]; exact HRR.out.1, HCL.out, by rw [HR.out, HRR.out.2]; rfl, hrow1.alloc _⟩
              · have hw := HWORD.out (by rw [if_neg hn0, if_neg (fun h => h32 h.2), if_neg (by omega)])
                rw [if_neg (by omega)] at hw
                have HNX := Lib.hid hw
                clear hw HERR HWORD HDIG HCUT hn0 hext
                go_wp2_with (first | (go_at_call 86; refine HB.out.mono ?_; rintro e w' ⟨rfl, rfl⟩) | (go_at_call 87; refine HWC.out.mono ?_))
                rintro e w1 ⟨rfl, hb1⟩
                have hrow1 := hrow.kept (grown_of_below hb1) (by cases q <;> simp [Value.ownBlock])
                have hB1 := hB.trans (hb1.mono hB.size)
                clear hrow hB
                go_wp2_with (at_builtin; refine wpList_append_own _ rfl _ _ 64 rfl w.heap.size 104 i0 _ 4 40 Tryz.underlying64 hi hz0 hz1 hz2 rfl (by decide) _ _ _ rfl ((hrow1.alloc _).alloc _) ⟨w1.heap.size + 1, 0, none⟩ 1 1 [.int .i64 1, .string (s.extract k (k + nn)), .int .i64 0, .int .i64 (k : Nat)] rfl rfl ?c1 ?c2 ?c3 ?c4 ?c5 ?_)
                case c1 =>
                  have := row_new (w1.alloc (.cells #[.int .i64 1, .string (s.extract k (k + nn)), .int .i64 0, .int .i64 (k : Nat)] 104)) [.int .i64 1, .string (s.extract k (k + nn)), .int .i64 0, .int .i64 (k : Nat)] 104
                  rwa [World.size_alloc] at this
                case c2 =>
                  intro u hu
                  rcases List.mem_cons.1 hu with rfl | hu
                  · rfl
                  rcases List.mem_cons.1 hu with rfl | hu
                  · rfl
                  rcases List.mem_cons.1 hu with rfl | hu
                  · rfl
                  rcases List.mem_cons.1 hu with rfl | hu
                  · rfl
                  · exact absurd hu (by simp)
                case c3 => unfold maxLen; omega
                case c4 => omega
                case c5 => have := hB1.size; simp; omega
                intro v' w9 hown9 hgrow9 _
                obtain ⟨g', cap', rfl⟩ := ownsRow_succ hown9
                have hB9 : Below w.heap.size w w9 := ((hB1.alloc hB1.size _).alloc (by have := hB1.size; simp; omega) _).grown hgrow9 (by have := hB1.size; simp; omega) (fun j hj => by have := (hrow1.lt j hj).1; omega)
                go_wp2
                exact ⟨⟨k + nn, ys ++ [⟨1, s.extract k (k + nn), 0, k, 0⟩], some ⟨g', 0, none⟩, cap', by omega, by rw [Int.natCast_add], by rw [List.length_append]; rfl, by rw [List.length_append, tokCells_snoc]; exact hown9, hB9, HNX⟩, by rw [show (intOf (Value.int .i64 ((k : Int) + (nn : Int)))).toNat = k + nn from j0]; simp [intOf]; omega⟩
            · have hk1b : (((kd : Nat) : Int) == 1) = false := by simp; omega
              by_cases hk3 : kd = 3
              · subst hk3
                have hdg := HDIG.out rfl
                rw [← HCUT.out] at hdg
                have hval := fun W => value_any (s.extract k (k + nn)) (by omega) hdg W
                unfold ValRes at hval
                rw [HCUT.out] at hval
                generalize ((bl s).drop k).take nn = dd at *
                by_cases hm : most < valD dd
                · have hr := HERR.out (by rw [if_neg hn0, if_neg (by omega), if_pos ⟨rfl, hm⟩]; decide)
                  rw [if_neg hn0, if_neg (by omega), if_pos ⟨rfl, hm⟩] at hr
                  rw [if_neg (by omega), decide_eq_false (by omega)] at hval
                  have HRR := Lib.hid hr
                  have HV := Lib.hid hval
                  clear hr hval HERR HWORD HDIG HCUT hn0 hext hdg hm hk1
                  go_wp2_with (first | (go_at_call 86; refine HB.out.mono ?_; rintro e w' ⟨rfl, rfl⟩) | (go_at_call 87; refine HWC.out.mono ?_))
                  rintro e w1 ⟨rfl, hb1⟩
                  have hrow1 := hrow.kept (grown_of_below hb1) (by cases q <;> simp [Value.ownBlock])
                  have hB1 := hB.trans (hb1.mono hB.size)
                  go_wp2_with (go_at_call 88; refine (HV.out _).mono ?_; rintro e w' ⟨rfl, rfl⟩)
                  go_ret3
                  exact ⟨hB1.alloc hB1.size _, ys, q, c, by rw [HR.out]; exact HRR.out.1, HCL.out, by rw [HR.out, HRR.out.2]; rfl, hrow1.alloc _⟩
                · have hw := HWORD.out (by rw [if_neg hn0, if_neg (by omega), if_neg (fun h => hm h.2)])
                  rw [if_pos rfl] at hw
                  rw [if_pos (by omega), decide_eq_true (by omega)] at hval
                  generalize valD dd = vv at *
                  have HNX := Lib.hid hw
                  have HV := Lib.hid hval
                  clear hw hval HERR HWORD HDIG HCUT hn0 hext hdg hm hk1
                  go_wp2_with (first | (go_at_call 86; refine HB.out.mono ?_; rintro e w' ⟨rfl, rfl⟩) | (go_at_call 87; refine HWC.out.mono ?_))
                  rintro e w1 ⟨rfl, hb1⟩
                  have hrow1 := hrow.kept (grown_of_below hb1) (by cases q <;> simp [Value.ownBlock])
                  have hB1 := hB.trans (hb1.mono hB.size)
                  clear hrow hB
                  go_wp2_with (first | (go_at_call 88; refine (HV.out _).mono ?_; rintro e w' ⟨rfl, rfl⟩) | (at_builtin; refine wpList_append_own _ rfl _ _ 64 rfl w.heap.size 104 i0 _ 4 40 Tryz.underlying64 hi hz0 hz1 hz2 rfl (by decide) _ _ _ rfl ((hrow1.alloc _).alloc _) ⟨w1.heap.size + 1, 0, none⟩ 1 1 [.int .i64 3, .string (s.extract k (k + nn)), .int .i64 (vv : Nat), .int .i64 (k : Nat)] rfl rfl ?c1 ?c2 ?c3 ?c4 ?c5 ?_))
                  case c1 =>
                    have := row_new (w1.alloc (.cells #[.int .i64 3, .string (s.extract k (k + nn)), .int .i64 (vv : Nat), .int .i64 (k : Nat)] 104)) [.int .i64 3, .string (s.extract k (k + nn)), .int .i64 (vv : Nat), .int .i64 (k : Nat)] 104
                    rwa [World.size_alloc] at this
                  case c2 =>
                    intro u hu
                    rcases List.mem_cons.1 hu with rfl | hu
                    · rfl
                    rcases List.mem_cons.1 hu with rfl | hu
                    · rfl
                    rcases List.mem_cons.1 hu with rfl | hu
                    · rfl
                    rcases List.mem_cons.1 hu with rfl | hu
                    · rfl
                    · exact absurd hu (by simp)
                  case c3 => unfold maxLen; omega
                  case c4 => omega
                  case c5 => have := hB1.size; simp; omega
                  intro v' w9 hown9 hgrow9 _
                  obtain ⟨g', cap', rfl⟩ := ownsRow_succ hown9
                  have hB9 : Below w.heap.size w w9 := ((hB1.alloc hB1.size _).alloc (by have := hB1.size; simp; omega) _).grown hgrow9 (by have := hB1.size; simp; omega) (fun j hj => by have := (hrow1.lt j hj).1; omega)
                  go_wp2
                  exact ⟨⟨k + nn, ys ++ [⟨3, s.extract k (k + nn), vv, k, 0⟩], some ⟨g', 0, none⟩, cap', by omega, by rw [Int.natCast_add], by rw [List.length_append]; rfl, by rw [List.length_append, tokCells_snoc]; exact hown9, hB9, HNX⟩, by rw [show (intOf (Value.int .i64 ((k : Int) + (nn : Int)))).toNat = k + nn from j0]; simp [intOf]; omega⟩
              · have hk3b : (((kd : Nat) : Int) == 3) = false := by simp; omega
                have hw := HWORD.out (by rw [if_neg hn0, if_neg (fun h => hk1 h.1), if_neg (fun h => hk3 h.1)])
                rw [if_neg hk3] at hw
                have HNX := Lib.hid hw
                clear hw HERR HWORD HDIG HCUT hn0 hext hk1 hk3
                go_wp2_with (first | (go_at_call 86; refine HB.out.mono ?_; rintro e w' ⟨rfl, rfl⟩) | (go_at_call 87; refine HWC.out.mono ?_))
                rintro e w1 ⟨rfl, hb1⟩
                have hrow1 := hrow.kept (grown_of_below hb1) (by cases q <;> simp [Value.ownBlock])
                have hB1 := hB.trans (hb1.mono hB.size)
                clear hrow hB
                go_wp2_with (at_builtin; refine wpList_append_own _ rfl _ _ 64 rfl w.heap.size 104 i0 _ 4 40 Tryz.underlying64 hi hz0 hz1 hz2 rfl (by decide) _ _ _ rfl ((hrow1.alloc _).alloc _) ⟨w1.heap.size + 1, 0, none⟩ 1 1 [.int .i64 (kd : Nat), .string (s.extract k (k + nn)), .int .i64 0, .int .i64 (k : Nat)] rfl rfl ?c1 ?c2 ?c3 ?c4 ?c5 ?_)
                case c1 =>
                  have := row_new (w1.alloc (.cells #[.int .i64 (kd : Nat), .string (s.extract k (k + nn)), .int .i64 0, .int .i64 (k : Nat)] 104)) [.int .i64 (kd : Nat), .string (s.extract k (k + nn)), .int .i64 0, .int .i64 (k : Nat)] 104
                  rwa [World.size_alloc] at this
                case c2 =>
                  intro u hu
                  rcases List.mem_cons.1 hu with rfl | hu
                  · rfl
                  rcases List.mem_cons.1 hu with rfl | hu
                  · rfl
                  rcases List.mem_cons.1 hu with rfl | hu
                  · rfl
                  rcases List.mem_cons.1 hu with rfl | hu
                  · rfl
                  · exact absurd hu (by simp)
                case c3 => unfold maxLen; omega
                case c4 => omega
                case c5 => have := hB1.size; simp; omega
                intro v' w9 hown9 hgrow9 _
                obtain ⟨g', cap', rfl⟩ := ownsRow_succ hown9
                have hB9 : Below w.heap.size w w9 := ((hB1.alloc hB1.size _).alloc (by have := hB1.size; simp; omega) _).grown hgrow9 (by have := hB1.size; simp; omega) (fun j hj => by have := (hrow1.lt j hj).1; omega)
                go_wp2
                exact ⟨⟨k + nn, ys ++ [⟨kd, s.extract k (k + nn), 0, k, 0⟩], some ⟨g', 0, none⟩, cap', by omega, by rw [Int.natCast_add], by rw [List.length_append]; rfl, by rw [List.length_append, tokCells_snoc]; exact hown9, hB9, HNX⟩, by rw [show (intOf (Value.int .i64 ((k : Int) + (nn : Int)))).toNat = k + nn from j0]; simp [intOf]; omega⟩
    · obtain ⟨f1, f2⟩ := HS.out.done (by omega)
      have HF := Lib.hid (And.intro f1 f2)
      have HC := Lib.hid HS.out.clean
      clear f1 f2 HS
      go_wp2
      go_ret3
      refine ⟨hB, ys, q, c, by rw [HR.out]; exact HF.out.1, HC.out, by rw [HR.out, HF.out.2]; rfl, hrow⟩
end Go.Proofs.YtnmcjkabihihiaaGreatDoor

/- How a text is begun, and a fault told. -/
namespace Go.Proofs.YtnmcjkabihihiaaGreatDoor
open Go Go.RowKit Go.Proofs.Mm

/-! ## A text is begun -/
theorem allItems_W (s : ByteArray) : allItems s = itemsOf (wordsR s) := by
  unfold allItems wordsR
  split
  · rfl
  · rfl
/-- What Scan answers. -/
def ScnR (s : ByteArray) (w : World) (e : Ending) (w' : World) : Prop :=
  Below w.heap.size w w' ∧ ((∃ er a : Nat, er ≠ 0 ∧ faultOf s = some (er, a) ∧ e = .returned (.tuple #[.slice none 0 0, .int .i64 (a : Nat), .int .i64 (er : Nat)])) ∨
    ∃ q c, faultOf s = none ∧ s.size ≤ 65536 ∧ Ws (itsOf s) ∧ e = .returned (.tuple #[.slice q (itsOf s).length c, .int .i64 0, .int .i64 0]) ∧ w'.ownsRow w.heap.size 104 4 (.slice q (itsOf s).length c) (itsOf s).length (tokCells (itsOf s)))
theorem scanD_any (s : ByteArray) (w : World) : Calls Tryz.prog 36 #[.string s] w (ScnR s w) := by
  have HW := Lib.hid (show Calls Tryz.prog 67 #[.string s] w (WordsRes s w) from by
    by_cases h : 65536 < s.size
    · exact words_long s h w
    · exact words_ok s (by omega) w)
  go_enter Tryz.func36, Tryz.ntmps36
  go_wp2_with fail
  go_at_call 67
  refine HW.out.mono ?_
  rintro e w1 ⟨hb, ys, q, c, hy, hy0, rfl, ho⟩
  have HB := Lib.hid hb
  obtain ⟨at_, hat⟩ : ∃ at_, (wordsR s).2.1 = at_ := ⟨_, rfl⟩
  obtain ⟨er, her⟩ : ∃ er, (wordsR s).2.2 = er := ⟨_, rfl⟩
  rw [hat, her]
  have HIT := Lib.hid (allItems_W s)
  by_cases h0 : er = 0
  · subst h0
    have hkey : ys.map It.key = allItems s := by
      rw [HIT.out]
      unfold itemsOf
      rw [her, if_pos rfl, List.append_nil, ← hy, List.map_map]
      apply List.map_congr_left
      intro x hx
      simp only [Function.comp, It.key, hy0 x hx]
    have hI := its_of hkey
    have hF := faultOf_none hkey hy0
    have hsz := (all_short hkey hy0).1
    have hws := ws_of hkey hy0
    rw [← hI] at hws
    rw [← hI] at ho ⊢
    have HO := Lib.hid ho
    have HF := Lib.hid hF
    have e0 : (((0 : Nat) : Int) != 0) = false := rfl
    clear ho hkey hI hF hy hy0 hat her HIT hb
    go_wp2_with fail
    go_ret3
    exact ⟨HB.out, .inr ⟨q, c, HF.out, hsz, hws, rfl, HO.out⟩⟩
  · have e0 : ((er : Int) != 0) = true := by simp; omega
    have HF := Lib.hid (show faultOf s = some (er, at_) from by
      have hk : (ys ++ ([⟨0, ⟨#[]⟩, 0, at_, er⟩] : List It)).map It.key = allItems s := by
        rw [HIT.out]
        unfold itemsOf
        rw [her, if_neg h0, ← hy, hat, List.map_append, List.map_map]
        congr 1
        apply List.map_congr_left
        intro x hx
        simp only [Function.comp, It.key, hy0 x hx]
      exact faultOf_some (x := ⟨0, ⟨#[]⟩, 0, at_, er⟩) (by rw [hk]; exact List.prefix_refl _) h0)
    clear ho hy hy0 hat her HIT hb
    go_wp2_with fail
    go_ret3
    exact ⟨HB.out, .inl ⟨er, at_, h0, HF.out, rfl⟩⟩
/-- How a text is begun: with its first fault, or with its words. -/
def BgR (s : ByteArray) (w : World) (e : Ending) (w' : World) : Prop :=
  Below w.heap.size w w' ∧ ∃ D : DC, e = .returned (PB D) ∧ w.heap.size ≤ D.bt ∧ D.bt < w'.heap.size ∧
    ((∃ er a : Nat, er ≠ 0 ∧ faultOf s = some (er, a) ∧ DS D (.slice none 0 0) (.slice none 0 0) er a w') ∨
     (faultOf s = none ∧ s.size ≤ 65536 ∧ Ws (itsOf s) ∧ D.ys = itsOf s ∧ D.len = s.size ∧ DS D (.slice none 0 0) (.slice none 0 0) 0 0 w' ∧ (D.ys ≠ [] → w.heap.size ≤ D.bw)))
theorem begin_any (s : ByteArray) (w : World) : Calls Tryz.prog 16 #[.string s] w (BgR s w) := by
  have HS := Lib.hid (scanD_any s w)
  by_cases hs : 65536 < s.size
  · have hsi : (65536 : Int) < ((s.size : Nat) : Int) := by omega
    have HF := Lib.hid (show faultOf s = some (3, 0) from by
      have hk : ([⟨0, ⟨#[]⟩, 0, 0, 3⟩] : List It).map It.key = allItems s := by unfold allItems; rw [if_pos hs]; rfl
      exact faultOf_some (pr := []) (x := ⟨0, ⟨#[]⟩, 0, 0, 3⟩) (by rw [List.nil_append, hk]; exact List.prefix_refl _) (by decide))
    have hB := (Below.refl w.heap.size w).alloc (Nat.le_refl _) (.cells #[.slice none 0 0, .int .i64 0, .int .i64 3, .int .i64 0, .slice none 0 0, .slice none 0 0] 66)
    have hN := World.alloc_heap_new w (.cells #[.slice none 0 0, .int .i64 0, .int .i64 3, .int .i64 0, .slice none 0 0, .slice none 0 0] 66)
    clear HS hs
    go_enter Tryz.func16, Tryz.ntmps16
    go_wp2_with fail
    go_ret
    refine ⟨hB, ⟨[], 0, w.heap.size, 0, 0, none⟩, rfl, Nat.le_refl _, by simp, .inl ⟨3, 0, by decide, HF.out, ⟨hN, .inl rfl, by simp⟩⟩⟩
  · have hsi : ¬ ((65536 : Int) < ((s.size : Nat) : Int)) := by omega
    clear hs
    go_enter Tryz.func16, Tryz.ntmps16
    go_wp2_with fail
    go_at_call 36
    refine HS.out.mono ?_
    rintro e w1 ⟨hb, ⟨er, a, h0, hf, rfl⟩ | ⟨q, c, hf, hsz, hwsI, rfl, ho⟩⟩
    · have hB := hb.alloc hb.size (.cells #[.slice none 0 0, .int .i64 (s.size : Nat), .int .i64 (er : Nat), .int .i64 (a : Nat), .slice none 0 0, .slice none 0 0] 66)
      have hN := World.alloc_heap_new w1 (.cells #[.slice none 0 0, .int .i64 (s.size : Nat), .int .i64 (er : Nat), .int .i64 (a : Nat), .slice none 0 0, .slice none 0 0] 66)
      have HB := Lib.hid hB
      have HN := Lib.hid hN
      have hws := hb.size
      clear hB hN hb
      go_wp2_with fail
      go_ret
      exact ⟨HB.out, ⟨[], s.size, w1.heap.size, 0, 0, none⟩, rfl, hws, by simp, .inl ⟨er, a, h0, hf, ⟨HN.out, .inl rfl, by simp⟩⟩⟩
    · obtain ⟨n, hn⟩ : ∃ n, (itsOf s).length = n := ⟨_, rfl⟩
      have HNN := Lib.hid hn
      rw [hn] at ho ⊢
      have hB := hb.alloc hb.size (.cells #[.slice q n c, .int .i64 (s.size : Nat), .int .i64 0, .int .i64 0, .slice none 0 0, .slice none 0 0] 66)
      have hN := World.alloc_heap_new w1 (.cells #[.slice q n c, .int .i64 (s.size : Nat), .int .i64 0, .int .i64 0, .slice none 0 0, .slice none 0 0] 66)
      have HB := Lib.hid hB
      have hws := hb.size
      have hws2 : (itsOf s).length ≤ 65536 := hwsI.2
      have HDS := Lib.hid (show ∃ bw, (itsOf s ≠ [] → w.heap.size ≤ bw) ∧ DS ⟨itsOf s, s.size, w1.heap.size, bw, c, q⟩ (.slice none 0 0) (.slice none 0 0) 0 0 (w1.alloc (.cells #[.slice q n c, .int .i64 (s.size : Nat), .int .i64 0, .int .i64 0, .slice none 0 0, .slice none 0 0] 66)) from by
        by_cases hnil : itsOf s = []
        · exact ⟨0, fun h => absurd hnil h, ⟨by rw [show (DC.ys ⟨itsOf s, s.size, w1.heap.size, 0, c, q⟩).length = n from hn]; exact hN, .inl hnil, hws2⟩⟩
        · rcases ho.2 with ⟨h1, h2⟩ | ⟨g, cap, cur, h1, h2, h3, h4, h5, h6, h7⟩
          · exact absurd (List.eq_nil_of_length_eq_zero (by omega)) hnil
          · have hq : q = some ⟨g, 0, none⟩ := by injection h1
            refine ⟨g, fun _ => h2, ⟨by rw [show (DC.ys ⟨itsOf s, s.size, w1.heap.size, g, c, q⟩).length = n from hn]; exact hN, .inr ⟨hq, cur, heap_new _ _ h3, fun j u hu => ?_⟩, hws2⟩⟩
            have hu : (tokCells (itsOf s))[j]? = some u := hu
            rw [← h7, List.getElem?_take] at hu
            split at hu
            · simpa using hu
            · cases hu)
      clear hB hN hb ho hn
      go_wp2_with fail
      go_ret
      obtain ⟨bw, hbw, hds⟩ := HDS.out
      exact ⟨HB.out, ⟨itsOf s, s.size, w1.heap.size, bw, c, q⟩, rfl, hws, by simp, .inr ⟨hf, hsz, hwsI, rfl, rfl, hds, hbw⟩⟩

theorem resultsF (tmps : Array Value) (w : World) (b5 : Nat) (y0 y1 y2 : Value) (T3 : TypeId) (h5 : tmps[2]?.getD undef = .pointer (some ⟨b5, 0, none⟩))
    (c5 : w.heap[b5]? = some (.cells #[y0, y1, y2] T3 (0, 0))) :
    (results Tryz.f18 tmps).run Tryz.prog w = .ok (.agg #[y0, y1, y2]) w := by
  obtain ⟨q0, q1, q2, _⟩ := three_cells c5
  simp [results, Tryz.results18, go_sem, h5, q0, q1, q2]
theorem faultD_any {D : DC} {nv bv : Value} {er a : Nat} {w : World} (h : DS D nv bv er a w) (he : er ≠ 0) : Calls Tryz.prog 18 #[PB D] w fun e w' => e = .returned (.agg #[.int .i64 (er : Nat), .int .i64 (-1), .int .i64 (a : Nat)]) ∧ Chg (fun _ => False) w w' := by
  obtain ⟨q, x0, x1, x2, x3, _, _, hz, hlt, hx⟩ := h.raw
  have e0 : ((er : Int) == 0) = false := by simp; omega
  clear hx hz h
  go_enter Tryz.func18, Tryz.ntmps18
  go_wp2_with fail
  go_region_with (fail)
  all_goals
    go_wp2
    exact bodyPost_ret (resultsF _ _ _ _ _ _ _ rfl (show ((w.alloc (.cells #[.int .i64 (er : Nat), .int .i64 (-1), .int .i64 (a : Nat)] 30)).drew).heap[w.heap.size]? = _ from World.alloc_heap_new w _)) rfl ⟨rfl, ((Chg.refl _ w).alloc _).drew⟩
end Go.Proofs.YtnmcjkabihihiaaGreatDoor

/- The document's Parse. -/
namespace Go.Proofs.YtnmcjkabihihiaaGreatDoor
open Go Go.RowKit Go.Proofs.Mm

theorem resultsDP (tmps : Array Value) (w : World) (b4 b5 : Nat) (x0 x1 x2 x3 x4 y0 y1 y2 : Value) (T5 T3 : TypeId) (h4 : tmps[2]?.getD undef = .pointer (some ⟨b4, 0, none⟩)) (h5 : tmps[3]?.getD undef = .pointer (some ⟨b5, 0, none⟩))
    (c4 : w.heap[b4]? = some (.cells #[x0, x1, x2, x3, x4] T5 (0, 0))) (c5 : w.heap[b5]? = some (.cells #[y0, y1, y2] T3 (0, 0))) :
    (results Tryz.f8 tmps).run Tryz.prog w = .ok (.tuple #[.agg #[x0, x1, x2, x3, x4], .agg #[y0, y1, y2]]) w := by
  obtain ⟨p0, p1, p2, p3, p4⟩ := five_cells c4
  obtain ⟨q0, q1, q2, _⟩ := three_cells c5
  simp [results, Tryz.results8, go_sem, h4, h5, p0, p1, p2, p3, p4, q0, q1, q2]
set_option maxRecDepth 100000 in
set_option maxHeartbeats 4000000 in
theorem docParse_any (s : ByteArray) (w : World) {m : Mem} (hm : Has w m) : Calls Tryz.prog 8 #[.string s] w (ParRes s m w) := by
  have hb0 : Below w.heap.size w ((w.alloc srZ).alloc flZ) := ((Below.refl _ _).alloc (Nat.le_refl _) _).alloc (by simp) _
  have hR : ((w.alloc srZ).alloc flZ).heap[w.heap.size]? = some srZ := heap_new _ _ (World.alloc_heap_new w srZ)
  have hF := World.alloc_heap_new (w.alloc srZ) flZ
  rw [World.size_alloc] at hF
  have hsz : ((w.alloc srZ).alloc flZ).heap.size = w.heap.size + 2 := by simp
  have hbeg := begin_any s ((w.alloc srZ).alloc flZ)
  have HB0 := Lib.hid hb0
  have HR := Lib.hid hR
  have HF := Lib.hid hF
  have HM := Lib.hid hm
  clear hb0 hR hF hm
  go_enter Tryz.func8, Tryz.ntmps8
  go_wp2_with fail
  go_at_call 16
  change Calls Tryz.prog _ _ ((w.alloc srZ).alloc flZ) _
  generalize (w.alloc srZ).alloc flZ = W0 at *
  refine hbeg.mono ?_
  rintro e w1 ⟨hb1, D, rfl, hbt, hbt2, hcase⟩
  have HW1 := Lib.hid (show RdW w srZ flZ w1 from ⟨(hb1.block _ (by omega)).trans HR.out, (hb1.block _ (by omega)).trans HF.out, (Below.chg HB0.out (Nat.le_refl _) _).then (Below.chg (hb1.mono (Nat.le_refl _)) (Nat.le_refl _) _)⟩)
  have hcA : Chg (fun _ => False) w1 (w1.alloc srZ) := (Chg.refl _ w1).alloc _
  have HWA := Lib.hid (HW1.out.next hcA (fun k e => e.elim))
  have hX1 := World.alloc_heap_new w1 srZ
  have hs1 := hb1.size
  rcases hcase with ⟨er, a, h0, hf, hd⟩ | ⟨hf, hss, hws, hys, hlen, hd, hbw⟩
  · have hdA := hd.chg hcA (fun e => e) (fun e => e)
    obtain ⟨q, _, _, x2, _⟩ := hdA.raw
    have e0 : ((er : Int) == 0) = false := by simp; omega
    have e1 : ((er : Int) != 0) = true := by simp; omega
    have HFA := Lib.hid (faultD_any hdA h0)
    have HX := Lib.hid (show srcOf s = .error (er, a) from read_bad hf)
    obtain ⟨WA, hWA⟩ : ∃ WA, w1.alloc srZ = WA := ⟨_, rfl⟩
    rw [hWA] at HFA x2 HWA
    have hWA' : w1.alloc (.cells #[.slice none 0 0, .slice none 0 0, .slice none 0 0, .slice none 0 0, .slice none 0 0] 27) = WA := hWA
    clear hd hdA hbeg hb1 hcA hX1 hWA
    go_wp2_with fail
    go_at_call 18
    refine HFA.out.mono ?_
    rintro e w2 ⟨rfl, hc2⟩
    have HW2 := Lib.hid (HWA.out.next hc2 (fun k e => e.elim))
    obtain ⟨z0, z1, z2, z3, z4⟩ := five_cells HW2.out.res
    obtain ⟨f0, f1, f2, f3, f4⟩ := five_free HW2.out.res
    obtain ⟨y0, y1, y2, g0, g1, g2⟩ := three_cells HW2.out.flt
    have hszw := HW2.out.size
    have HEND := Lib.hid (show RdW w _ _ _ from (HW2.out.five (.slice none 0 0) (.slice none 0 0) (.slice none 0 0) (.slice none 0 0) (.slice none 0 0)).fault (.int .i64 (er : Nat)) (.int .i64 (-1)) (.int .i64 (a : Nat)))
    clear hc2
    go_wp2
    exact bodyPost_ret (resultsDP _ _ _ _ _ _ _ _ _ _ _ _ _ _ rfl rfl HEND.out.res HEND.out.flt) rfl (ParRes.bad HX.out (HEND.out.chg.below (Nat.le_refl _) (fun _ e => e.elim)))
  · have hdA := hd.chg hcA (fun e => e) (fun e => e)
    obtain ⟨q0, _, _, x2, _⟩ := hdA.raw
    have e0 : (((0 : Nat) : Int) == 0) = true := rfl
    have hmA := HM.out.chg HWA.out.chg (fun _ e => e.elim)
    have hmb : m D.bt = none := HM.out.lt (by omega)
    have HSR := Lib.hid (source_d hdA hmA hmb)
    have HSX := Lib.hid (show ∀ r, Syn.source (Tk D.ys) (D.ys.length + 1) = r → srcOf s = match r with | .error (er, k) => .error (er, (tk D.ys D.len k).a) | .ok (x, _) => .ok x from fun r hr => by
      unfold srcOf readOf
      rw [hf]
      simp only
      rw [← hys, hr, hlen]
      cases r with
      | error q => rfl
      | ok q => rfl)
    have hX2 : ∀ w2, Chg (fun k => k = D.bt) (w1.alloc srZ) w2 → w2.heap[w1.heap.size]? = some srZ := fun w2 hc => hc.heap hX1 (by omega)
    have HX2 := Lib.hid hX2
    obtain ⟨WA, hWA⟩ : ∃ WA, w1.alloc srZ = WA := ⟨_, rfl⟩
    have hsA : WA.heap.size = w1.heap.size + 1 := by rw [← hWA]; simp
    rw [hWA] at HSR HX2 x2 HWA
    have hWA' : w1.alloc (.cells #[.slice none 0 0, .slice none 0 0, .slice none 0 0, .slice none 0 0, .slice none 0 0] 27) = WA := hWA
    clear hd hdA hbeg hb1 hcA hX1 hWA hmA hX2 hf hys hlen hbw hws
    go_wp2_with fail
    go_at_call 17
    refine HSR.out.mono ?_
    rintro e w2 ⟨q1, n1, c1, q2, n2, c2, q3, n3, c3, q4, n4, c4, q5, n5, c5, z, er, a, nv, bv, rfl, hC, hd2, hcu, hso⟩
    have hx2 := HX2.out w2 hC
    obtain ⟨z0, z1, z2, z3, z4⟩ := five_cells (show w2.heap[w1.heap.size]? = some (.cells #[.slice none 0 0, .slice none 0 0, .slice none 0 0, .slice none 0 0, .slice none 0 0] 27 (0, 0)) from hx2)
    obtain ⟨f0, f1, f2, f3, f4⟩ := five_free hx2
    have hlx := heap_lt hx2
    have hc3 := chg_five (Chg.refl (fun k => k = w1.heap.size) w2) (.inl rfl) (.slice q1 n1 c1) (.slice q2 n2 c2) (.slice q3 n3 c3) (.slice q4 n4 c4) (.slice q5 n5 c5)
    have hx3 := set5 (x' := .slice q1 n1 c1) (y' := .slice q2 n2 c2) (z' := .slice q3 n3 c3) (u' := .slice q4 n4 c4) (v' := .slice q5 n5 c5) hx2
    have hW3 := (HWA.out.next hC (fun k e => by subst e; omega)).next hc3 (fun k e => by subst e; omega)
    have hd3 := hd2.chg2 hc3 (by omega) (fun hn e => by
      obtain ⟨_, arr2, k1, _⟩ := hd2.tok.resolve_left hn
      exact blk_ne hx2 k1 (by decide) e.symm)
    obtain ⟨W3, hW3e⟩ : ∃ W3, (((((w2.setCell ⟨w1.heap.size, 0, none⟩ (.slice q1 n1 c1)).setCell ⟨w1.heap.size, 1, none⟩ (.slice q2 n2 c2)).setCell ⟨w1.heap.size, 2, none⟩ (.slice q3 n3 c3)).setCell ⟨w1.heap.size, 3, none⟩ (.slice q4 n4 c4)).setCell ⟨w1.heap.size, 4, none⟩ (.slice q5 n5 c5)) = W3 := ⟨_, rfl⟩
    rw [hW3e] at hc3 hx3 hW3 hd3
    obtain ⟨q00, _, _, y2, _⟩ := hd3.raw
    have HX3 := Lib.hid hx3
    have HW3 := Lib.hid hW3
    have HD3 := Lib.hid hd3
    have HC3 := Lib.hid hc3
    have hs2 := hC.size
    have hs3 := hc3.size
    have HSO := Lib.hid hso
    rcases hcu.cases with ⟨so, j, hx, h4, h5, h6⟩ | ⟨k, t, hx, h4, h5, h6⟩
    · obtain ⟨m', g1, g2, g3⟩ := HSO.out so j hx
      have HS := Lib.hid (show srcOf s = .ok so from HSX.out _ hx)
      subst h4
      have e2 : (((0 : Nat) : Int) != 0) = false := rfl
      have HMX := Lib.hid (And.intro g1 (And.intro g2 g3))
      clear hd2 hcu hso hx2 hC hc3 hx3 hW3 hd3 g1 g2 g3 hx h5 x2
      obtain ⟨v0, v1, v2, v3, v4⟩ := five_cells HX3.out
      obtain ⟨t0, t1, t2, t3, t4⟩ := five_cells HW3.out.res
      obtain ⟨k0, k1, k2, k3, k4⟩ := five_free HW3.out.res
      obtain ⟨r0, r1, r2, s0, s1, s2⟩ := three_cells HW3.out.flt
      have hszw := HW3.out.size
      have hlx3 := heap_lt HX3.out
      have HEND := Lib.hid (show RdW w _ _ _ from (HW3.out.five (.slice q1 n1 c1) (.slice q2 n2 c2) (.slice q3 n3 c3) (.slice q4 n4 c4) (.slice q5 n5 c5)).fault (.int .i64 0) (.int .i64 0) (.int .i64 0))
      have HMY := Lib.hid (And.intro HMX.out.1 (And.intro (HMX.out.2.1.from (w := w) (by have := HWA.out.size; omega)) ((HMX.out.2.2.chg HC3.out (fun k e => by
          rw [e]; exact HMX.out.2.1.new _ (HM.out.lt (by omega)) (by omega))).chg (chg_three (chg_five (Chg.refl (fun k => k = w.heap.size ∨ k = w.heap.size + 1) W3) (g := w.heap.size) (.inl (.inl rfl)) (.slice q1 n1 c1) (.slice q2 n2 c2) (.slice q3 n3 c3) (.slice q4 n4 c4) (.slice q5 n5 c5)) (g := w.heap.size + 1) (.inl (.inr rfl)) (.int .i64 0) (.int .i64 0) (.int .i64 0)) (fun k e => by
        rcases e with e | e
        · rw [e]; exact HMX.out.2.1.new _ (HM.out.lt (Nat.le_refl _)) (by omega)
        · rw [e]; exact HMX.out.2.1.new _ (HM.out.lt (by omega)) (by omega)))))
      go_wp2
      exact bodyPost_ret (resultsDP _ _ _ _ _ _ _ _ _ _ _ _ _ _ rfl rfl HEND.out.res HEND.out.flt) rfl (ParRes.good HS.out (HEND.out.chg.below (Nat.le_refl _) (fun _ e => e.elim)) HMY.out.1 HMY.out.2.1 HMY.out.2.2)
    · have HS := Lib.hid (show srcOf s = .error (er, a) from by rw [HSX.out _ hx, h4, h6])
      have her : er ≠ 0 := by omega
      have e2 : ((er : Int) != 0) = true := by simp; omega
      have HFA := Lib.hid (faultD_any HD3.out her)
      clear hd2 hcu hso hx2 hC hc3 hx3 hW3 hd3 hx h6 x2 h4 h5
      go_wp2_with fail
      go_at_call 18
      refine HFA.out.mono ?_
      rintro e w4 ⟨rfl, hc4⟩
      have HW4 := Lib.hid (HW3.out.next hc4 (fun k e => e.elim))
      obtain ⟨t0, t1, t2, t3, t4⟩ := five_cells HW4.out.res
      obtain ⟨k0, k1, k2, k3, k4⟩ := five_free HW4.out.res
      obtain ⟨r0, r1, r2, s0, s1, s2⟩ := three_cells HW4.out.flt
      have hszw := HW4.out.size
      have HEND := Lib.hid (show RdW w _ _ _ from (HW4.out.five (.slice none 0 0) (.slice none 0 0) (.slice none 0 0) (.slice none 0 0) (.slice none 0 0)).fault (.int .i64 (er : Nat)) (.int .i64 (-1)) (.int .i64 (a : Nat)))
      clear hc4
      go_wp2
      exact bodyPost_ret (resultsDP _ _ _ _ _ _ _ _ _ _ _ _ _ _ rfl rfl HEND.out.res HEND.out.flt) rfl (ParRes.bad HS.out (HEND.out.chg.below (Nat.le_refl _) (fun _ e => e.elim)))
end Go.Proofs.YtnmcjkabihihiaaGreatDoor

/- The kit's compares: the same rows are the same. -/
namespace Go.Proofs.YtnmcjkabihihiaaGreatDoor
open Go Go.RowKit Go.Proofs.Mm

theorem enc_at {α : Type} {R : List Value → α → Prop} {size : Nat} (hR : ∀ c x, R c x → c.length = size) : ∀ {l : List α} {cs : List Value}, Enc R cs l → ∀ j (h : j < l.length), ∃ c, R c l[j] ∧ ∀ r, r < size → cs[j * size + r]? = c[r]?
  | [], _, _, j, h => absurd h (by simp)
  | x :: l, cs, he, j, h => by
    obtain ⟨c, d, rfl, h1, h2⟩ := he
    have hc := hR _ _ h1
    cases j with
    | zero => exact ⟨c, h1, fun r hr => by rw [Nat.zero_mul, Nat.zero_add, List.getElem?_append_left (by omega)]⟩
    | succ j =>
      obtain ⟨c', h3, h4⟩ := enc_at hR h2 j (by simpa using h)
      refine ⟨c', h3, fun r hr => ?_⟩
      rw [show (j + 1) * size + r = c.length + (j * size + r) by rw [hc, Nat.succ_mul]; omega, List.getElem?_append_right (by omega), Nat.add_sub_cancel_left]
      exact h4 r hr
theorem rd_enc {α : Type} {R : List Value → α → Prop} {size : Nat} {w : World} {q : Option Addr} {cs : List Value} {l : List α} (hR : ∀ c x, R c x → c.length = size) (h : RdR w q cs) (he : Enc R cs l) (j : Nat) (hj : j < l.length) (hs : 0 < size) :
    ∃ g c, q = some ⟨g, 0, none⟩ ∧ R c l[j] ∧ ∀ r u, r < size → c[r]? = some u → w.cell? ⟨g, j * size + r, none⟩ = some u := by
  obtain ⟨c, h1, h2⟩ := enc_at hR he j hj
  have hc := hR _ _ h1
  rcases h with h | ⟨g, hg, h3⟩
  · subst h
    have := h2 0 hs
    rw [List.getElem?_eq_getElem (show 0 < c.length by omega)] at this
    simp at this
  · exact ⟨g, c, hg, h1, fun r u hr hu => h3 _ _ (by rw [h2 r hr]; exact hu)⟩
theorem enc_str : ∀ l : List (List Nat), Enc (fun c s => c = [Value.string (sb s)]) (strC l) l
  | [] => rfl
  | s :: l => ⟨[.string (sb s)], strC l, rfl, rfl, enc_str l⟩
theorem rd_str {w : World} {q : Option Addr} {l : List (List Nat)} (h : RdR w q (strC l)) (j : Nat) (hj : j < l.length) : ∃ g, q = some ⟨g, 0, none⟩ ∧ w.cell? ⟨g, j, none⟩ = some (.string (sb l[j])) := by
  obtain ⟨g, c, h1, rfl, h2⟩ := rd_enc (size := 1) (fun c x e => by rw [e]; rfl) h (enc_str l) j hj (by decide)
  exact ⟨g, h1, by have := h2 0 _ (by decide) rfl; simpa using this⟩
theorem rd_de {w : World} {m : Mem} {q : Option Addr} {l : List Syn.De} {cs : List Value} (h : RdR w q cs) (he : Enc (DeR m) cs l) (j : Nat) (hj : j < l.length) : ∃ g, q = some ⟨g, 0, none⟩ ∧ w.cell? ⟨g, j * 2, none⟩ = some (.string (sb l[j].name)) ∧ w.cell? ⟨g, j * 2 + 1, none⟩ = some (.int .u64 (l[j].label : Nat)) := by
  obtain ⟨g, c, h1, ⟨rfl, _⟩, h2⟩ := rd_enc (size := 2) (fun c x e => by rw [e.1]; rfl) h he j hj (by decide)
  exact ⟨g, h1, h2 0 _ (by decide) rfl, h2 1 _ (by decide) rfl⟩
theorem rd_la {w : World} {m : Mem} {q : Option Addr} {l : List Nat} {cs : List Value} (h : RdR w q cs) (he : Enc (LaR m) cs l) (j : Nat) (hj : j < l.length) : ∃ g, q = some ⟨g, 0, none⟩ ∧ w.cell? ⟨g, j, none⟩ = some (.int .u64 (l[j] : Nat)) := by
  obtain ⟨g, c, h1, ⟨rfl, _⟩, h2⟩ := rd_enc (size := 1) (fun c x e => by rw [e.1]; rfl) h he j hj (by decide)
  exact ⟨g, h1, by have := h2 0 _ (by decide) rfl; simpa using this⟩
theorem rd_ex {w : World} {m : Mem} {q : Option Addr} {l : List (List Syn.Tm)} {cs : List Value} (hm : Has w m) (h : RdR w q cs) (he : Enc (fun c x => ∃ u, c = [u] ∧ TmM m u x) cs l) (j : Nat) (hj : j < l.length) : ∃ g q' c, q = some ⟨g, 0, none⟩ ∧ w.cell? ⟨g, j, none⟩ = some (.slice q' l[j].length c) ∧ RdR w q' (tmCells l[j]) ∧ l[j].length ≤ 9223372036854775807 := by
  obtain ⟨g, c, h1, ⟨u, rfl, hu⟩, h2⟩ := rd_enc (size := 1) (fun c x ⟨u, e, _⟩ => by rw [e]; rfl) h he j hj (by decide)
  obtain ⟨q', c', rfl⟩ := rowM_shape hu
  refine ⟨g, q', c', h1, by have := h2 0 _ (by decide) rfl; simpa using this, RowM.rd hu hm, ?_⟩
  rcases hu.2 with ⟨_, e⟩ | ⟨_, cap, _, e, _, h4, h5, _⟩
  · omega
  · unfold maxLen at h5; omega
theorem row_max {m : Mem} {E : TypeId} {size n : Nat} {v : Value} {xs : List Value} (hu : RowM m E size v n xs) : n ≤ 9223372036854775807 := by
  rcases hu.2 with ⟨_, e⟩ | ⟨_, cap, _, e, _, h4, h5, _⟩
  · omega
  · unfold maxLen at h5; omega
theorem rd_st {w : World} {m : Mem} {q : Option Addr} {l : List Syn.St} {cs : List Value} (h : RdR w q cs) (he : Enc (StM m) cs l) (j : Nat) (hj : j < l.length) : ∃ g q1 c1 q2 c2, q = some ⟨g, 0, none⟩ ∧ w.cell? ⟨g, j * 4, none⟩ = some (.int .i64 (l[j].kind : Int)) ∧ w.cell? ⟨g, j * 4 + 1, none⟩ = some (.string (sb l[j].name)) ∧ w.cell? ⟨g, j * 4 + 2, none⟩ = some (.slice q1 l[j].targets.length c1) ∧ w.cell? ⟨g, j * 4 + 3, none⟩ = some (.slice q2 l[j].exprs.length c2) ∧
    StrM m (.slice q1 l[j].targets.length c1) l[j].targets ∧ ExM m (.slice q2 l[j].exprs.length c2) l[j].exprs := by
  obtain ⟨g, c, h1, ⟨vt, ve, rfl, ht, hex⟩, h2⟩ := rd_enc (size := 4) (fun c x ⟨vt, ve, e, _⟩ => by rw [e]; rfl) h he j hj (by decide)
  obtain ⟨q1, c1, rfl⟩ := rowM_shape ht
  obtain ⟨q2, c2, rfl⟩ := ex_shape hex
  exact ⟨g, q1, c1, q2, c2, h1, h2 0 _ (by decide) rfl, h2 1 _ (by decide) rfl, h2 2 _ (by decide) rfl, h2 3 _ (by decide) rfl, ht, hex⟩
set_option maxRecDepth 100000 in
set_option maxHeartbeats 1000000 in
theorem strings_same {w : World} {q q' : Option Addr} {n c c' : Nat} (l : List (List Nat)) (hn : l.length = n) (ha : RdR w q (strC l)) (hb : RdR w q' (strC l)) (hmax : n ≤ 9223372036854775807) :
    Calls Tryz.prog 19 #[.slice q n c, .slice q' n c'] w fun e w' => e = .returned (.bool true) ∧ ∃ k, w' = w.drewN k := by
  have HN := Lib.hid hn
  have HA := Lib.hid ha
  have HB := Lib.hid hb
  have hneq : ((n : Int) != (n : Int)) = false := by simp
  clear ha hb hn
  go_enter Tryz.func19, Tryz.ntmps19
  go_wp2
  go_loopw [5] (fun i wr => ∃ k nq : Nat, k ≤ n ∧ i = .int .i64 k ∧ wr = w.drewN nq) (fun i _ => n - (intOf i).toNat)
  case atStart => exact ⟨0, 0, Nat.zero_le _, rfl, rfl⟩
  case round =>
    obtain ⟨k, nq, hk, rfl, rfl⟩ := hrel
    by_cases hlt : k < n
    · have hk' : k < l.length := by rw [HN.out]; exact hlt
      obtain ⟨g, rfl, a1⟩ := rd_str HA.out k hk'
      obtain ⟨g', rfl, b1⟩ := rd_str HB.out k hk'
      generalize sb l[k] = nm at *
      have hki : (k : Int) < (n : Int) := by omega
      have e1 : (nm.toList == nm.toList) = true := by simp
      have e2 : (nm.toList != nm.toList) = false := by simp
      have e3 : (!(nm.toList == nm.toList)) = false := by simp
      go_wp2
      go_quiet (fail)
      go_wp2
      exact ⟨⟨k + 1, _, by omega, by go_num, rfl⟩, by simp [intOf]; omega⟩
    · go_wp2
      go_ret
      exact ⟨rfl, _, rfl⟩
set_option maxRecDepth 100000 in
set_option maxHeartbeats 1000000 in
theorem decls_same {w : World} {q q' : Option Addr} {n c c' : Nat} (l : List Syn.De) {m : Mem} {cs cs' : List Value} (he : Enc (DeR m) cs l) (he' : Enc (DeR m) cs' l) (hn : l.length = n) (ha : RdR w q cs) (hb : RdR w q' cs') (hmax : n ≤ 9223372036854775807) :
    Calls Tryz.prog 20 #[.slice q n c, .slice q' n c'] w fun e w' => e = .returned (.bool true) ∧ ∃ k, w' = w.drewN k := by
  have HN := Lib.hid hn
  have HA := Lib.hid ha
  have HB := Lib.hid hb
  have hneq : ((n : Int) != (n : Int)) = false := by simp
  clear ha hb hn
  go_enter Tryz.func20, Tryz.ntmps20
  go_wp2
  go_loopw [5] (fun i wr => ∃ k nq : Nat, k ≤ n ∧ i = .int .i64 k ∧ wr = w.drewN nq) (fun i _ => n - (intOf i).toNat)
  case atStart => exact ⟨0, 0, Nat.zero_le _, rfl, rfl⟩
  case round =>
    obtain ⟨k, nq, hk, rfl, rfl⟩ := hrel
    by_cases hlt : k < n
    · have hk' : k < l.length := by rw [HN.out]; exact hlt
      obtain ⟨g, rfl, a1, a2⟩ := rd_de HA.out he k hk'
      obtain ⟨g', rfl, b1, b2⟩ := rd_de HB.out he' k hk'
      generalize sb l[k].name = nm at *
      generalize l[k].label = lb at *
      have hki : (k : Int) < (n : Int) := by omega
      have e1 : (nm.toList == nm.toList) = true := by simp
      have e2 : ((lb : Int) == (lb : Int)) = true := by simp
      go_wp2
      go_quiet (fail)
      go_wp2
      exact ⟨⟨k + 1, _, by omega, by go_num, rfl⟩, by simp [intOf]; omega⟩
    · go_wp2
      go_ret
      exact ⟨rfl, _, rfl⟩
set_option maxRecDepth 100000 in
set_option maxHeartbeats 1000000 in
theorem labels_same {w : World} {q q' : Option Addr} {n c c' : Nat} (l : List Nat) {m : Mem} {cs cs' : List Value} (he : Enc (LaR m) cs l) (he' : Enc (LaR m) cs' l) (hn : l.length = n) (ha : RdR w q cs) (hb : RdR w q' cs') (hmax : n ≤ 9223372036854775807) :
    Calls Tryz.prog 21 #[.slice q n c, .slice q' n c'] w fun e w' => e = .returned (.bool true) ∧ ∃ k, w' = w.drewN k := by
  have HN := Lib.hid hn
  have HA := Lib.hid ha
  have HB := Lib.hid hb
  have hneq : ((n : Int) != (n : Int)) = false := by simp
  clear ha hb hn
  go_enter Tryz.func21, Tryz.ntmps21
  go_wp2
  go_loopw [5] (fun i wr => ∃ k nq : Nat, k ≤ n ∧ i = .int .i64 k ∧ wr = w.drewN nq) (fun i _ => n - (intOf i).toNat)
  case atStart => exact ⟨0, 0, Nat.zero_le _, rfl, rfl⟩
  case round =>
    obtain ⟨k, nq, hk, rfl, rfl⟩ := hrel
    by_cases hlt : k < n
    · have hk' : k < l.length := by rw [HN.out]; exact hlt
      obtain ⟨g, rfl, a1⟩ := rd_la HA.out he k hk'
      obtain ⟨g', rfl, b1⟩ := rd_la HB.out he' k hk'
      generalize l[k] = lb at *
      have hki : (k : Int) < (n : Int) := by omega
      have e2 : ((lb : Int) == (lb : Int)) = true := by simp
      have e3 : ((lb : Int) != (lb : Int)) = false := by simp
      go_wp2
      go_quiet (fail)
      go_wp2
      exact ⟨⟨k + 1, _, by omega, by go_num, rfl⟩, by simp [intOf]; omega⟩
    · go_wp2
      go_ret
      exact ⟨rfl, _, rfl⟩
set_option maxRecDepth 100000 in
set_option maxHeartbeats 1000000 in
theorem exprs_same {w : World} {q q' : Option Addr} {n c c' : Nat} (l : List (List Syn.Tm)) {m : Mem} (hm : Has w m) (hn : l.length = n) (ha : ExM m (.slice q n c) l) (hb : ExM m (.slice q' n c') l) :
    Calls Tryz.prog 45 #[.slice q n c, .slice q' n c'] w fun e w' => e = .returned (.bool true) ∧ ∃ k, w' = w.drewN k := by
  subst hn
  obtain ⟨cs, ha, he⟩ := ha
  obtain ⟨cs', hb, he'⟩ := hb
  have hmax := row_max ha
  have HA := Lib.hid (RowM.rd ha hm)
  have HB := Lib.hid (RowM.rd hb hm)
  have HM := Lib.hid hm
  obtain ⟨n, hnn⟩ : ∃ n, l.length = n := ⟨_, rfl⟩
  have HN := Lib.hid hnn
  rw [hnn] at hmax ⊢
  have hneq : ((n : Int) != (n : Int)) = false := by simp
  clear ha hb hm hnn
  go_enter Tryz.func45, Tryz.ntmps45
  go_wp2
  go_loopw [5] (fun i wr => ∃ k nq : Nat, k ≤ n ∧ i = .int .i64 k ∧ wr = w.drewN nq) (fun i _ => n - (intOf i).toNat)
  case atStart => exact ⟨0, 0, Nat.zero_le _, rfl, rfl⟩
  case round =>
    obtain ⟨k, nq, hk, rfl, rfl⟩ := hrel
    by_cases hlt : k < n
    · have hk' : k < l.length := by rw [HN.out]; exact hlt
      obtain ⟨g, qa, ca, rfl, a1, a2, a3⟩ := rd_ex (w := w.drewN nq) HM.out HA.out he k hk'
      obtain ⟨g', qb, cb, rfl, b1, b2, _⟩ := rd_ex (w := w.drewN nq) HM.out HB.out he' k hk'
      obtain ⟨W, hW⟩ : ∃ W, w.drewN nq = W := ⟨_, rfl⟩
      rw [hW] at a1 b1 a2 b2 ⊢
      have HWW := Lib.hid hW
      clear hW
      have HT := Lib.hid (fun j => terms_same (w := W.drewN j) (c := ca) (c' := cb) l[k] rfl a2 b2 a3)
      clear a2 b2 a3
      have hki : (k : Int) < (n : Int) := by omega
      generalize l[k].length = lk at *
      go_wp2
      go_quiet ((go_at_call 24; exact Calls.quiet_of (HT.out _)))
      go_wp2
      exact ⟨⟨k + 1, _, by omega, by go_num, by rw [← HWW.out, World.drewN_drewN]⟩, by simp [intOf]; omega⟩
    · go_wp2
      go_ret
      exact ⟨rfl, _, rfl⟩
set_option maxRecDepth 100000 in
set_option maxHeartbeats 4000000 in
theorem stmts_same {w : World} {q q' : Option Addr} {n c c' : Nat} (l : List Syn.St) {m : Mem} (hm : Has w m) (hn : l.length = n) {cs cs' : List Value} (ha : RowM m 47 4 (.slice q n c) n cs) (he : Enc (StM m) cs l) (hb : RowM m 47 4 (.slice q' n c') n cs') (he' : Enc (StM m) cs' l) :
    Calls Tryz.prog 22 #[.slice q n c, .slice q' n c'] w fun e w' => e = .returned (.bool true) ∧ ∃ k, w' = w.drewN k := by
  have hmax := row_max ha
  have HA := Lib.hid (RowM.rd ha hm)
  have HB := Lib.hid (RowM.rd hb hm)
  have HM := Lib.hid hm
  have HN := Lib.hid hn
  have hneq : ((n : Int) != (n : Int)) = false := by simp
  clear ha hb hm hn
  go_enter Tryz.func22, Tryz.ntmps22
  go_wp2
  go_loopw [5] (fun i wr => ∃ k nq : Nat, k ≤ n ∧ i = .int .i64 k ∧ wr = w.drewN nq) (fun i _ => n - (intOf i).toNat)
  case atStart => exact ⟨0, 0, Nat.zero_le _, rfl, rfl⟩
  case round =>
    obtain ⟨k, nq, hk, rfl, rfl⟩ := hrel
    by_cases hlt : k < n
    · have hk' : k < l.length := by rw [HN.out]; exact hlt
      obtain ⟨g, q1, c1, q2, c2, rfl, a1, a2, a3, a4, a5, a6⟩ := rd_st (w := w.drewN nq) HA.out he k hk'
      obtain ⟨g', q3, c3, q4, c4, rfl, b1, b2, b3, b4, b5, b6⟩ := rd_st (w := w.drewN nq) HB.out he' k hk'
      have hmW : Has (w.drewN nq) m := HM.out
      obtain ⟨W, hW⟩ : ∃ W, w.drewN nq = W := ⟨_, rfl⟩
      rw [hW] at a1 a2 a3 a4 b1 b2 b3 b4 hmW ⊢
      have HWW := Lib.hid hW
      have HMW := Lib.hid hmW
      clear hW hmW
      have HS := Lib.hid (fun j => strings_same (w := W.drewN j) (c := c1) (c' := c3) l[k].targets rfl (RowM.rd a5 HMW.out) (RowM.rd b5 HMW.out) (row_max a5))
      have HX := Lib.hid (fun j => exprs_same (w := W.drewN j) (c := c2) (c' := c4) l[k].exprs (m := m) HMW.out rfl a6 b6)
      clear a5 a6 b5 b6
      have hki : (k : Int) < (n : Int) := by omega
      generalize l[k].targets.length = t1 at *
      generalize l[k].exprs.length = t2 at *
      generalize sb l[k].name = nm at *
      generalize l[k].kind = kd at *
      have e1 : (nm.toList == nm.toList) = true := by simp
      have e2 : (nm.toList != nm.toList) = false := by simp
      have e3 : ((kd : Int) == (kd : Int)) = true := by simp
      have e4 : ((kd : Int) != (kd : Int)) = false := by simp
      have e5 : (!(nm.toList == nm.toList)) = false := by simp
      go_wp2
      go_quiet (first | (go_at_call 19; exact Calls.quiet_of (HS.out _)) | (go_at_call 45; exact Calls.quiet_of (HX.out _)))
      go_wp2
      exact ⟨⟨k + 1, _, by omega, by go_num, by rw [← HWW.out, World.drewN_drewN]⟩, by simp [intOf]; omega⟩
    · go_wp2
      go_ret
      exact ⟨rfl, _, rfl⟩
end Go.Proofs.YtnmcjkabihihiaaGreatDoor

/- The kit's compare of sources: the same sources are the same. -/
namespace Go.Proofs.YtnmcjkabihihiaaGreatDoor
open Go Go.RowKit Go.Proofs.Mm

theorem rd_ar {w : World} {m : Mem} {q : Option Addr} {l : List Syn.Ar} {cs : List Value} (h : RdR w q cs) (he : Enc (ArR m) cs l) (j : Nat) (hj : j < l.length) : ∃ g, q = some ⟨g, 0, none⟩ ∧ w.cell? ⟨g, j * 3, none⟩ = some (.string (sb l[j].name)) ∧ w.cell? ⟨g, j * 3 + 1, none⟩ = some (.int .i64 (l[j].len : Nat)) ∧ w.cell? ⟨g, j * 3 + 2, none⟩ = some (.int .u64 (l[j].label : Nat)) := by
  obtain ⟨g, c, h1, ⟨rfl, _⟩, h2⟩ := rd_enc (size := 3) (fun c x e => by rw [e.1]; rfl) h he j hj (by decide)
  exact ⟨g, h1, h2 0 _ (by decide) rfl, h2 1 _ (by decide) rfl, h2 2 _ (by decide) rfl⟩
/-- A function's rows, behind their slices. -/
structure FnS (m : Mem) (f : Syn.Fn) (q1 : Option Addr) (c1 : Nat) (q2 : Option Addr) (c2 : Nat) (q3 : Option Addr) (c3 : Nat) (q4 : Option Addr) (c4 : Nat) : Prop where
  p : ∃ cs, RowM m 75 2 (.slice q1 f.params.length c1) f.params.length cs ∧ Enc (DeR m) cs f.params
  r : ∃ cs, RowM m 37 1 (.slice q2 f.results.length c2) f.results.length cs ∧ Enc (LaR m) cs f.results
  v : ∃ cs, RowM m 75 2 (.slice q3 f.vars.length c3) f.vars.length cs ∧ Enc (DeR m) cs f.vars
  b : ∃ cs, RowM m 47 4 (.slice q4 f.body.length c4) f.body.length cs ∧ Enc (StM m) cs f.body
theorem rd_fn {w : World} {m : Mem} {q : Option Addr} {l : List Syn.Fn} {cs : List Value} (h : RdR w q cs) (he : Enc (FnM m) cs l) (j : Nat) (hj : j < l.length) : ∃ g q1 c1 q2 c2 q3 c3 q4 c4, q = some ⟨g, 0, none⟩ ∧ w.cell? ⟨g, j * 6, none⟩ = some (.string (sb l[j].name)) ∧ w.cell? ⟨g, j * 6 + 1, none⟩ = some (.int .u64 (l[j].level : Nat)) ∧
    w.cell? ⟨g, j * 6 + 2, none⟩ = some (.slice q1 l[j].params.length c1) ∧ w.cell? ⟨g, j * 6 + 3, none⟩ = some (.slice q2 l[j].results.length c2) ∧ w.cell? ⟨g, j * 6 + 4, none⟩ = some (.slice q3 l[j].vars.length c3) ∧ w.cell? ⟨g, j * 6 + 5, none⟩ = some (.slice q4 l[j].body.length c4) ∧ FnS m l[j] q1 c1 q2 c2 q3 c3 q4 c4 := by
  obtain ⟨g, c, h1, ⟨a, b, d, e, rfl, _, ⟨cs1, p1, e1⟩, ⟨cs2, p2, e2⟩, ⟨cs3, p3, e3⟩, ⟨cs4, p4, e4⟩⟩, h2⟩ := rd_enc (size := 6) (fun c x ⟨_, _, _, _, e, _⟩ => by rw [e]; rfl) h he j hj (by decide)
  obtain ⟨q1, c1, rfl⟩ := rowM_shape p1
  obtain ⟨q2, c2, rfl⟩ := rowM_shape p2
  obtain ⟨q3, c3, rfl⟩ := rowM_shape p3
  obtain ⟨q4, c4, rfl⟩ := rowM_shape p4
  exact ⟨g, q1, c1, q2, c2, q3, c3, q4, c4, h1, h2 0 _ (by decide) rfl, h2 1 _ (by decide) rfl, h2 2 _ (by decide) rfl, h2 3 _ (by decide) rfl, h2 4 _ (by decide) rfl, h2 5 _ (by decide) rfl, ⟨cs1, p1, e1⟩, ⟨cs2, p2, e2⟩, ⟨cs3, p3, e3⟩, ⟨cs4, p4, e4⟩⟩
/-- A source's rows, behind their slices. -/
structure SoS (m : Mem) (s : Syn.So) (q1 : Option Addr) (c1 : Nat) (q2 : Option Addr) (c2 : Nat) (q3 : Option Addr) (c3 : Nat) (q4 : Option Addr) (c4 : Nat) (q5 : Option Addr) (c5 : Nat) : Prop where
  p : RowM m 9 1 (.slice q1 s.principals.length c1) s.principals.length (strC s.principals)
  g : ∃ cs, RowM m 75 2 (.slice q2 s.globals.length c2) s.globals.length cs ∧ Enc (DeR m) cs s.globals
  a : ∃ cs, RowM m 71 3 (.slice q3 s.arrays.length c3) s.arrays.length cs ∧ Enc (ArR m) cs s.arrays
  c : ∃ cs, RowM m 75 2 (.slice q4 s.channels.length c4) s.channels.length cs ∧ Enc (DeR m) cs s.channels
  f : ∃ cs, RowM m 41 6 (.slice q5 s.funcs.length c5) s.funcs.length cs ∧ Enc (FnM m) cs s.funcs
theorem SoM.rows {m : Mem} {s : Syn.So} {q1 c1 q2 c2 q3 c3 q4 c4 q5 c5} (h : SoM m [.slice q1 s.principals.length c1, .slice q2 s.globals.length c2, .slice q3 s.arrays.length c3, .slice q4 s.channels.length c4, .slice q5 s.funcs.length c5] s) : SoS m s q1 c1 q2 c2 q3 c3 q4 c4 q5 c5 := by
  obtain ⟨p', a', b', d', e', h, h0, h1, h2, h3, h4⟩ := h
  simp only [List.cons.injEq, and_true] at h
  obtain ⟨rfl, rfl, rfl, rfl, rfl⟩ := h
  exact ⟨h0, h1, h2, h3, h4⟩
theorem hasD {w : World} {m : Mem} (h : Has w m) (n : Nat) : Has (w.drewN n) m := h
theorem heapD {w : World} {k : Nat} {o : Obj} (h : w.heap[k]? = some o) (n : Nat) : (w.drewN n).heap[k]? = some o := h
def soO (a b c d e : Value) : Obj := .cells #[a, b, c, d, e] 27
set_option maxRecDepth 100000 in
set_option maxHeartbeats 8000000 in
theorem source_same {w : World} {m : Mem} (hm : Has w m) (s : Syn.So) {q1 c1 q2 c2 q3 c3 q4 c4 q5 c5 r1 d1 r2 d2 r3 d3 r4 d4 r5 d5} (ha : SoS m s q1 c1 q2 c2 q3 c3 q4 c4 q5 c5) (hb : SoS m s r1 d1 r2 d2 r3 d3 r4 d4 r5 d5) :
    Calls Tryz.prog 9 #[.agg #[.slice q1 s.principals.length c1, .slice q2 s.globals.length c2, .slice q3 s.arrays.length c3, .slice q4 s.channels.length c4, .slice q5 s.funcs.length c5], .agg #[.slice r1 s.principals.length d1, .slice r2 s.globals.length d2, .slice r3 s.arrays.length d3, .slice r4 s.channels.length d4, .slice r5 s.funcs.length d5]] w fun e w' => e = .returned (.bool true) ∧ Chg (fun _ => False) w w' := by
  obtain ⟨A, hA⟩ : ∃ A, soO (.slice q1 s.principals.length c1) (.slice q2 s.globals.length c2) (.slice q3 s.arrays.length c3) (.slice q4 s.channels.length c4) (.slice q5 s.funcs.length c5) = A := ⟨_, rfl⟩
  obtain ⟨B, hB⟩ : ∃ B, soO (.slice r1 s.principals.length d1) (.slice r2 s.globals.length d2) (.slice r3 s.arrays.length d3) (.slice r4 s.channels.length d4) (.slice r5 s.funcs.length d5) = B := ⟨_, rfl⟩
  have hC0 : Chg (fun _ => False) w ((w.alloc A).alloc B) := ((Chg.refl _ w).alloc _).alloc _
  have hH0 := hm.chg hC0 (fun _ e => e.elim)
  have hX : ((w.alloc A).alloc B).heap[w.heap.size]? = some A := heap_new _ _ (World.alloc_heap_new w A)
  have hY := World.alloc_heap_new (w.alloc A) B
  rw [World.size_alloc] at hY
  have HSt := Lib.hid (fun (W : World) (hW : Has W m) => strings_same (w := W) (c := c1) (c' := d1) s.principals rfl (RowM.rd ha.p hW) (RowM.rd hb.p hW) (row_max ha.p))
  obtain ⟨cg, g1, g2⟩ := ha.g
  obtain ⟨cg', g3, g4⟩ := hb.g
  obtain ⟨cc, h1, h2⟩ := ha.c
  obtain ⟨cc', h3, h4⟩ := hb.c
  have HDg := Lib.hid (fun (W : World) (hW : Has W m) => decls_same (w := W) (c := c2) (c' := d2) s.globals g2 g4 rfl (RowM.rd g1 hW) (RowM.rd g3 hW) (row_max g1))
  have HDc := Lib.hid (fun (W : World) (hW : Has W m) => decls_same (w := W) (c := c4) (c' := d4) s.channels h2 h4 rfl (RowM.rd h1 hW) (RowM.rd h3 hW) (row_max h1))
  have HAA := Lib.hid (And.intro ha.a hb.a)
  have HFF := Lib.hid (And.intro ha.f hb.f)
  have HH0 := Lib.hid hH0
  have HX := Lib.hid hX
  have HY := Lib.hid hY
  have HC0 := Lib.hid hC0
  clear ha hb g1 g2 g3 g4 h1 h2 h3 h4 hm hX hY hC0 hH0
  subst hA; subst hB
  unfold soO at HH0 HX HY HC0
  have e1 : ((s.arrays.length : Int) != (s.arrays.length : Int)) = false := by simp
  have e2 : ((s.funcs.length : Int) != (s.funcs.length : Int)) = false := by simp
  go_enter Tryz.func9, Tryz.ntmps9
  go_wp2_with fail
  go_at_call 19
  refine (HSt.out _ HH0.out).mono ?_
  rintro e w1 ⟨rfl, k1, rfl⟩
  go_wp2_with fail
  go_at_call 20
  refine (HDg.out _ (hasD HH0.out _)).mono ?_
  rintro e w1 ⟨rfl, k2, rfl⟩
  go_wp2_with fail
  go_at_call 20
  refine (HDc.out _ (hasD HH0.out _)).mono ?_
  rintro e w1 ⟨rfl, k3, rfl⟩
  have HX1 := Lib.hid (heapD HX.out (k1 + k2 + k3))
  have HY1 := Lib.hid (heapD HY.out (k1 + k2 + k3))
  have HH1 := Lib.hid (hasD HH0.out (k1 + k2 + k3))
  have HC1 := Lib.hid (HC0.out.drewN (k1 + k2 + k3))
  obtain ⟨x0, x1, x2, x3, x4⟩ := five_cells HX1.out
  obtain ⟨y0, y1, y2, y3, y4⟩ := five_cells HY1.out
  clear HX HY HH0 HC0 HSt HDg HDc
  go_wp2_with fail
  generalize (((w.alloc _).alloc _).drewN (k1 + k2 + k3) : World) = W at *
  obtain ⟨⟨ca, a1, a2⟩, ⟨ca', b1, b2⟩⟩ := HAA.out
  have hmax := row_max a1
  have HA := Lib.hid (RowM.rd a1 HH1.out)
  have HB := Lib.hid (RowM.rd b1 HH1.out)
  clear a1 b1 HAA
  obtain ⟨na, hna⟩ : ∃ na, s.arrays.length = na := ⟨_, rfl⟩
  have HNA := Lib.hid hna
  rw [hna] at hmax x2 y2
  go_loopw [5] (fun i wr => ∃ k nq : Nat, k ≤ na ∧ i = .int .i64 k ∧ wr = W.drewN nq) (fun i _ => na - (intOf i).toNat)
  case atStart => exact ⟨0, 0, Nat.zero_le _, rfl, rfl⟩
  case round =>
    obtain ⟨k, nq, hk, rfl, rfl⟩ := hrel
    by_cases hlt : k < na
    · have hk' : k < s.arrays.length := by rw [HNA.out]; exact hlt
      obtain ⟨g, rfl, p1, p2, p3⟩ := rd_ar HA.out a2 k hk'
      obtain ⟨g', rfl, p4, p5, p6⟩ := rd_ar HB.out b2 k hk'
      generalize sb s.arrays[k].name = nm at *
      generalize s.arrays[k].len = ln at *
      generalize s.arrays[k].label = lb at *
      have hki : (k : Int) < (na : Int) := by omega
      have t1 : (nm.toList == nm.toList) = true := by simp
      have t2 : ((ln : Int) == (ln : Int)) = true := by simp
      have t3 : ((lb : Int) == (lb : Int)) = true := by simp
      clear hna
      go_wp2
      go_quiet (fail)
      go_wp2
      exact ⟨⟨k + 1, _, by omega, by go_num, rfl⟩, by simp [intOf]; omega⟩
    · have hki : ¬ (k : Int) < (na : Int) := by omega
      clear hna
      obtain ⟨⟨cf, f1, f2⟩, ⟨cf', f3, f4⟩⟩ := HFF.out
      have hmaxf := row_max f1
      have HW := Lib.hid (Chg.refl (fun _ => False) (W.drewN nq))
      have HF := Lib.hid (And.intro f1 f3)
      clear f1 f3 HFF
      obtain ⟨nf, hnf⟩ : ∃ nf, s.funcs.length = nf := ⟨_, rfl⟩
      have HNF := Lib.hid hnf
      rw [hnf] at hmaxf x4 y4
      clear hnf
      go_wp2_with fail
      go_loopw [6] (fun i wr => ∃ k : Nat, k ≤ nf ∧ i = .int .i64 k ∧ Hid (Chg (fun _ => False) (W.drewN nq) wr)) (fun i _ => nf - (intOf i).toNat)
      case atStart => exact ⟨0, Nat.zero_le _, rfl, HW⟩
      case round =>
        obtain ⟨k2, hk2, rfl, HC⟩ := hrel
        have hHr := HH1.out.chg ((Chg.refl (fun _ => False) W).drewN nq) (fun _ e => e.elim) |>.chg HC.out (fun _ e => e.elim)
        have HHr := Lib.hid hHr
        have hXr := HC.out.heap (heapD HX1.out nq) (fun e => e.elim)
        have hYr := HC.out.heap (heapD HY1.out nq) (fun e => e.elim)
        rw [HNF.out] at hXr hYr
        obtain ⟨_, _, _, _, x4'⟩ := five_cells hXr
        obtain ⟨_, _, _, _, y4'⟩ := five_cells hYr
        clear hHr hXr hYr x0 x1 x2 x3 x4 y0 y1 y2 y3 y4 hki
        by_cases hlt2 : k2 < nf
        · have hk2' : k2 < s.funcs.length := by rw [HNF.out]; exact hlt2
          obtain ⟨g, qa, xa, qb, xb, qc, xc, qd, xd, rfl, p0, p1, p2, p3, p4, p5, P⟩ := rd_fn (RowM.rd HF.out.1 HHr.out) f2 k2 hk2'
          obtain ⟨g', qa', xa', qb', xb', qc', xc', qd', xd', rfl, u0, u1, u2, u3, u4, u5, U⟩ := rd_fn (RowM.rd HF.out.2 HHr.out) f4 k2 hk2'
          have HP := Lib.hid P
          have HU := Lib.hid U
          clear P U
          have l1 : w.heap.size < wr.heap.size := World.block_lt_of_cell? _ _ x4'
          have l2 : w.heap.size + 1 < wr.heap.size := World.block_lt_of_cell? _ _ y4'
          have l3 : g < wr.heap.size := World.block_lt_of_cell? _ _ p0
          have l4 : g' < wr.heap.size := World.block_lt_of_cell? _ _ u0
          have hki2 : (k2 : Int) < (nf : Int) := by omega
          generalize s.funcs[k2] = fn at *
          go_upto_region 11 with fail
          go_cut [7, 8] from 67 to 127 (fun r7 r8 wx => ∃ g7 g8, r7 = .pointer (some ⟨g7, 0, none⟩) ∧ r8 = .pointer (some ⟨g8, 0, none⟩) ∧ Hid (wx.heap[g7]? = some (.cells #[.string (sb fn.name), .int .u64 (fn.level : Nat), .slice qa fn.params.length xa, .slice qb fn.results.length xb, .slice qc fn.vars.length xc, .slice qd fn.body.length xd] 41 (0, 0))) ∧ Hid (wx.heap[g8]? = some (.cells #[.string (sb fn.name), .int .u64 (fn.level : Nat), .slice qa' fn.params.length xa', .slice qb' fn.results.length xb', .slice qc' fn.vars.length xc', .slice qd' fn.body.length xd'] 41 (0, 0))) ∧ Hid (Chg (fun _ => False) wr wx))
          case first =>
            have w1 := World.alloc_heap_new wr (.cells #[.string (sb fn.name), .int .u64 (fn.level : Nat), .slice qa fn.params.length xa, .slice qb fn.results.length xb, .slice qc fn.vars.length xc, .slice qd fn.body.length xd] 41)
            have w2 := World.alloc_heap_new wr (.cells #[.string (sb fn.name), .int .u64 (fn.level : Nat), .slice qa' fn.params.length xa', .slice qb' fn.results.length xb', .slice qc' fn.vars.length xc', .slice qd' fn.body.length xd'] 41)
            have w3 := World.alloc_heap_new (wr.alloc (.cells #[.string (sb fn.name), .int .u64 (fn.level : Nat), .slice qa fn.params.length xa, .slice qb fn.results.length xb, .slice qc fn.vars.length xc, .slice qd fn.body.length xd] 41)) (.cells #[.string (sb fn.name), .int .u64 (fn.level : Nat), .slice qa' fn.params.length xa', .slice qb' fn.results.length xb', .slice qc' fn.vars.length xc', .slice qd' fn.body.length xd'] 41)
            have w4 := World.alloc_heap_new (wr.alloc (.cells #[.string (sb fn.name), .int .u64 (fn.level : Nat), .slice qa' fn.params.length xa', .slice qb' fn.results.length xb', .slice qc' fn.vars.length xc', .slice qd' fn.body.length xd'] 41)) (.cells #[.string (sb fn.name), .int .u64 (fn.level : Nat), .slice qa fn.params.length xa, .slice qb fn.results.length xb, .slice qc fn.vars.length xc, .slice qd fn.body.length xd] 41)
            rw [World.size_alloc] at w3 w4
            have H1 := Lib.hid (And.intro (heap_new _ (.cells #[.string (sb fn.name), .int .u64 (fn.level : Nat), .slice qa' fn.params.length xa', .slice qb' fn.results.length xb', .slice qc' fn.vars.length xc', .slice qd' fn.body.length xd'] 41) w1) w3)
            have H2 := Lib.hid (And.intro (heap_new _ (.cells #[.string (sb fn.name), .int .u64 (fn.level : Nat), .slice qa fn.params.length xa, .slice qb fn.results.length xb, .slice qc fn.vars.length xc, .slice qd fn.body.length xd] 41) w2) w4)
            clear w1 w2 w3 w4
            go_region
            all_goals
              go_wp2_with fail
              go_meet
              first
                | exact ⟨_, _, rfl, rfl, Lib.hid H1.out.1, Lib.hid H1.out.2, Lib.hid (((Chg.refl _ wr).alloc _).alloc _).drew⟩
                | exact ⟨_, _, rfl, rfl, Lib.hid H2.out.2, Lib.hid H2.out.1, Lib.hid (((Chg.refl _ wr).alloc _).alloc _).drew⟩
          case rest =>
            obtain ⟨g7, g8, rfl, rfl, HG7, HG8, HCX⟩ := hcut
            have hHc := HHr.out.chg HCX.out (fun _ e => e.elim)
            obtain ⟨v0, v1, v2, v3, v4, v5⟩ := six_cells HG7.out
            obtain ⟨z0, z1, z2, z3, z4, z5⟩ := six_cells HG8.out
            obtain ⟨s1, s2, s3⟩ := HP.out.p
            obtain ⟨s4, s5, s6⟩ := HU.out.p
            have D1 := Lib.hid (fun n => decls_same (w := wc.drewN n) (c := xa) (c' := xa') fn.params s3 s6 rfl (RowM.rd s2 hHc) (RowM.rd s5 hHc) (row_max s2))
            obtain ⟨s1, s2, s3⟩ := HP.out.r
            obtain ⟨s4, s5, s6⟩ := HU.out.r
            have D2 := Lib.hid (fun n => labels_same (w := wc.drewN n) (c := xb) (c' := xb') fn.results s3 s6 rfl (RowM.rd s2 hHc) (RowM.rd s5 hHc) (row_max s2))
            obtain ⟨s1, s2, s3⟩ := HP.out.v
            obtain ⟨s4, s5, s6⟩ := HU.out.v
            have D3 := Lib.hid (fun n => decls_same (w := wc.drewN n) (c := xc) (c' := xc') fn.vars s3 s6 rfl (RowM.rd s2 hHc) (RowM.rd s5 hHc) (row_max s2))
            obtain ⟨s1, s2, s3⟩ := HP.out.b
            obtain ⟨s4, s5, s6⟩ := HU.out.b
            have D4 := Lib.hid (fun n => stmts_same (w := wc.drewN n) (c := xd) (c' := xd') fn.body (m := m) hHc rfl s2 s3 s5 s6)
            clear s1 s2 s3 s4 s5 s6 HP HU hHc p0 p1 p2 p3 p4 p5 u0 u1 u2 u3 u4 u5 l1 l2 l3 l4 x4' y4'
            generalize sb fn.name = nm at *
            generalize fn.level = lv at *
            generalize fn.params.length = n1 at *
            generalize fn.results.length = n2 at *
            generalize fn.vars.length = n3 at *
            generalize fn.body.length = n4 at *
            have t1 : (nm.toList == nm.toList) = true := by simp
            have t2 : (nm.toList != nm.toList) = false := by simp
            have t3 : ((lv : Int) == (lv : Int)) = true := by simp
            have t4 : ((lv : Int) != (lv : Int)) = false := by simp
            have E1 := D1.out 0
            have E2 := D2.out
            have E3 := D3.out
            have E4 := D4.out
            rw [World.drewN_zero] at E1
            have HE1 := Lib.hid E1
            have HE2 := Lib.hid E2
            have HE3 := Lib.hid E3
            have HE4 := Lib.hid E4
            clear E1 E2 E3 E4 D1 D2 D3 D4
            go_wp2_with fail
            go_at_call 20
            refine HE1.out.mono ?_
            rintro e w1 ⟨rfl, j1, rfl⟩
            go_wp2_with fail
            go_at_call 21
            refine (HE2.out _).mono ?_
            rintro e w1 ⟨rfl, j2, rfl⟩
            go_wp2_with fail
            go_at_call 20
            refine (HE3.out _).mono ?_
            rintro e w1 ⟨rfl, j3, rfl⟩
            go_wp2_with fail
            go_at_call 22
            refine (HE4.out _).mono ?_
            rintro e w1 ⟨rfl, j4, rfl⟩
            go_wp2_with fail
            exact ⟨⟨k2 + 1, by omega, by go_num, Lib.hid ((HC.out.then HCX.out).drewN _)⟩, by simp [intOf]; omega⟩
        · have hki2 : ¬ (k2 : Int) < (nf : Int) := by omega
          go_wp2_with fail
          go_ret
          exact ⟨rfl, ((HC1.out.drewN nq).then HC.out)⟩
end Go.Proofs.YtnmcjkabihihiaaGreatDoor

/- The walk of SyntaxReads. -/
namespace Go.Proofs.YtnmcjkabihihiaaGreatDoor
open Go Go.RowKit Go.Proofs.Mm

def mem00 : Mem := fun _ => none
theorem has00 (w : World) : Has w mem00 := fun _ _ e => by cases e
theorem sos00 : SoS mem00 ⟨[], [], [], [], []⟩ none 0 none 0 none 0 none 0 none 0 :=
  ⟨RowM.nil _ _ _, ⟨[], RowM.nil _ _ _, Enc.nil⟩, ⟨[], RowM.nil _ _ _, Enc.nil⟩, ⟨[], RowM.nil _ _ _, Enc.nil⟩, ⟨[], RowM.nil _ _ _, Enc.nil⟩⟩
def fltR (x y z : Int) : Obj := .cells #[.int .i64 x, .int .i64 y, .int .i64 z] 30
set_option maxRecDepth 100000 in
set_option maxHeartbeats 4000000 in
theorem synReads_any (s : ByteArray) (w : World) (hE : Env w) : Calls Tryz.prog 3 #[.string s] w fun e w' => e = .returned (.bool true) ∧ Below w.heap.size w w' := by
  have HP := Lib.hid (parse_any s w hE (has00 w))
  clear hE
  go_enter Tryz.func3, Tryz.ntmps3
  go_wp2_with fail
  go_at_call 7
  refine HP.out.mono ?_
  rintro e w1 hpr
  obtain ⟨hb1, ⟨er, a, hs, rfl⟩ | ⟨so, q1, c1, q2, c2, q3, c3, q4, c4, q5, c5, m1, hs, rfl, g1, g2, g3⟩⟩ := hpr.cases
  · have hB1 := (hb1.alloc hb1.size (soO (.slice none 0 0) (.slice none 0 0) (.slice none 0 0) (.slice none 0 0) (.slice none 0 0))).alloc (by simp; have := hb1.size; omega) (fltR (er : Nat) (-1) (a : Nat))
    have hS1 := heap_new _ (fltR (er : Nat) (-1) (a : Nat)) (World.alloc_heap_new w1 (soO (.slice none 0 0) (.slice none 0 0) (.slice none 0 0) (.slice none 0 0) (.slice none 0 0)))
    have hF1 := World.alloc_heap_new (w1.alloc (soO (.slice none 0 0) (.slice none 0 0) (.slice none 0 0) (.slice none 0 0) (.slice none 0 0))) (fltR (er : Nat) (-1) (a : Nat))
    rw [World.size_alloc] at hF1
    have HB1 := Lib.hid hB1
    have HS1 := Lib.hid hS1
    have HF1 := Lib.hid hF1
    have HS := Lib.hid hs
    clear hb1 hs hpr HP hB1 hS1 hF1
    go_wp2_with fail
    go_at_call 8
    change Calls Tryz.prog _ _ ((w1.alloc (soO (.slice none 0 0) (.slice none 0 0) (.slice none 0 0) (.slice none 0 0) (.slice none 0 0))).alloc (fltR (er : Nat) (-1) (a : Nat))) _
    generalize hW : (w1.alloc (soO (.slice none 0 0) (.slice none 0 0) (.slice none 0 0) (.slice none 0 0) (.slice none 0 0))).alloc (fltR (er : Nat) (-1) (a : Nat)) = W at *
    refine (docParse_any s W (has00 W)).mono ?_
    rintro e w2 hpr
    obtain ⟨hb2, ⟨er', a', hs', rfl⟩ | ⟨so', r1, d1, r2, d2, r3, d3, r4, d4, r5, d5, m2, hs', rfl, k1, k2, k3⟩⟩ := hpr.cases
    · have hse := hs'.symm.trans HS.out
      injection hse with hse
      have e1 : er' = er := congrArg Prod.fst hse
      have e2 : a' = a := congrArg Prod.snd hse
      subst e1 e2
      have hX : w2.heap[w1.heap.size]? = some (soO (.slice none 0 0) (.slice none 0 0) (.slice none 0 0) (.slice none 0 0) (.slice none 0 0)) := by rw [hb2.block _ (heap_lt HS1.out)]; exact HS1.out
      have hY : w2.heap[w1.heap.size + 1]? = some (fltR (er' : Nat) (-1) (a' : Nat)) := by rw [hb2.block _ (heap_lt HF1.out)]; exact HF1.out
      have hB2 := HB1.out.trans (hb2.mono HB1.out.size)
      have HB3 := Lib.hid ((hB2.alloc hB2.size (soO (.slice none 0 0) (.slice none 0 0) (.slice none 0 0) (.slice none 0 0) (.slice none 0 0))).alloc (by simp; have := hB2.size; omega) (fltR (er' : Nat) (-1) (a' : Nat)))
      obtain ⟨x0, x1, x2, x3, x4⟩ := five_cells (heap_new _ (fltR (er' : Nat) (-1) (a' : Nat)) (heap_new _ (soO (.slice none 0 0) (.slice none 0 0) (.slice none 0 0) (.slice none 0 0) (.slice none 0 0)) hX))
      obtain ⟨y0, y1, y2, _⟩ := three_cells (heap_new _ (fltR (er' : Nat) (-1) (a' : Nat)) (heap_new _ (soO (.slice none 0 0) (.slice none 0 0) (.slice none 0 0) (.slice none 0 0) (.slice none 0 0)) hY))
      simp only [fltR, soO] at x0 x1 x2 x3 x4 y0 y1 y2
      have b1 : (((er' : Nat) : Int) == ((er' : Nat) : Int)) = true := by simp
      have b2 : (((a' : Nat) : Int) == ((a' : Nat) : Int)) = true := by simp
      have HT := Lib.hid (fun W => source_same (w := W) (has00 _) ⟨[], [], [], [], []⟩ sos00 sos00)
      clear hb2 hs' hse hX hY hW HB1 HS HS1 HF1 hpr hB2
      go_wp2_with fail
      go_at_call 9
      refine (HT.out _).mono ?_
      rintro e w3 ⟨rfl, hc3⟩
      go_wp2_with fail
      go_ret
      exact ⟨rfl, HB3.out.trans ((hc3.below (Nat.le_refl _) (fun _ e => e.elim)).mono HB3.out.size)⟩
    · exact absurd (hs'.symm.trans HS.out) (by simp)
  · have hB1 := (hb1.alloc hb1.size (soO (.slice q1 so.principals.length c1) (.slice q2 so.globals.length c2) (.slice q3 so.arrays.length c3) (.slice q4 so.channels.length c4) (.slice q5 so.funcs.length c5))).alloc (by simp; have := hb1.size; omega) (fltR 0 0 0)
    have hS1 := heap_new _ (fltR 0 0 0) (World.alloc_heap_new w1 (soO (.slice q1 so.principals.length c1) (.slice q2 so.globals.length c2) (.slice q3 so.arrays.length c3) (.slice q4 so.channels.length c4) (.slice q5 so.funcs.length c5)))
    have hF1 := World.alloc_heap_new (w1.alloc (soO (.slice q1 so.principals.length c1) (.slice q2 so.globals.length c2) (.slice q3 so.arrays.length c3) (.slice q4 so.channels.length c4) (.slice q5 so.funcs.length c5))) (fltR 0 0 0)
    rw [World.size_alloc] at hF1
    have hM1 := g3.chg (((Chg.refl (fun _ => False) w1).alloc (soO (.slice q1 so.principals.length c1) (.slice q2 so.globals.length c2) (.slice q3 so.arrays.length c3) (.slice q4 so.channels.length c4) (.slice q5 so.funcs.length c5))).alloc (fltR 0 0 0)) (fun _ e => e.elim)
    have HM1 := Lib.hid hM1
    have HB1 := Lib.hid hB1
    have HS1 := Lib.hid hS1
    have HF1 := Lib.hid hF1
    have HS := Lib.hid hs
    have HG1 := Lib.hid g1
    clear hb1 hs hpr HP hB1 hS1 hF1 hM1 g1 g2 g3
    go_wp2_with fail
    go_at_call 8
    change Calls Tryz.prog _ _ ((w1.alloc (soO (.slice q1 so.principals.length c1) (.slice q2 so.globals.length c2) (.slice q3 so.arrays.length c3) (.slice q4 so.channels.length c4) (.slice q5 so.funcs.length c5))).alloc (fltR 0 0 0)) _
    generalize hW : (w1.alloc (soO (.slice q1 so.principals.length c1) (.slice q2 so.globals.length c2) (.slice q3 so.arrays.length c3) (.slice q4 so.channels.length c4) (.slice q5 so.funcs.length c5))).alloc (fltR 0 0 0) = W at *
    refine (docParse_any s W HM1.out).mono ?_
    rintro e w2 hpr
    obtain ⟨hb2, ⟨er', a', hs', rfl⟩ | ⟨so', r1, d1, r2, d2, r3, d3, r4, d4, r5, d5, m2, hs', rfl, k1, k2, k3⟩⟩ := hpr.cases
    · exact absurd (hs'.symm.trans HS.out) (by simp)
    · have hse := hs'.symm.trans HS.out
      injection hse with hse
      subst hse
      have hX : w2.heap[w1.heap.size]? = some (soO (.slice q1 so'.principals.length c1) (.slice q2 so'.globals.length c2) (.slice q3 so'.arrays.length c3) (.slice q4 so'.channels.length c4) (.slice q5 so'.funcs.length c5)) := by rw [hb2.block _ (heap_lt HS1.out)]; exact HS1.out
      have hY : w2.heap[w1.heap.size + 1]? = some (fltR 0 0 0) := by rw [hb2.block _ (heap_lt HF1.out)]; exact HF1.out
      have hB2 := HB1.out.trans (hb2.mono HB1.out.size)
      have HB3 := Lib.hid ((hB2.alloc hB2.size (soO (.slice r1 so'.principals.length d1) (.slice r2 so'.globals.length d2) (.slice r3 so'.arrays.length d3) (.slice r4 so'.channels.length d4) (.slice r5 so'.funcs.length d5))).alloc (by simp; have := hB2.size; omega) (fltR 0 0 0))
      have hM3 := k3.chg (((Chg.refl (fun _ => False) w2).alloc (soO (.slice r1 so'.principals.length d1) (.slice r2 so'.globals.length d2) (.slice r3 so'.arrays.length d3) (.slice r4 so'.channels.length d4) (.slice r5 so'.funcs.length d5))).alloc (fltR 0 0 0)) (fun _ e => e.elim)
      obtain ⟨x0, x1, x2, x3, x4⟩ := five_cells (heap_new _ (fltR 0 0 0) (heap_new _ (soO (.slice r1 so'.principals.length d1) (.slice r2 so'.globals.length d2) (.slice r3 so'.arrays.length d3) (.slice r4 so'.channels.length d4) (.slice r5 so'.funcs.length d5)) hX))
      obtain ⟨y0, y1, y2, _⟩ := three_cells (heap_new _ (fltR 0 0 0) (heap_new _ (soO (.slice r1 so'.principals.length d1) (.slice r2 so'.globals.length d2) (.slice r3 so'.arrays.length d3) (.slice r4 so'.channels.length d4) (.slice r5 so'.funcs.length d5)) hY))
      simp only [fltR, soO] at x0 x1 x2 x3 x4 y0 y1 y2
      have HT := Lib.hid (source_same hM3 so' (SoM.rows (SoM.le k2.le HG1.out)) (SoM.rows k1))
      clear hb2 hs' hX hY hW HB1 HS HS1 HF1 hpr hB2 hM3 k1 k2 k3 HM1 HG1
      go_wp2_with fail
      go_at_call 9
      refine HT.out.mono ?_
      rintro e w3 ⟨rfl, hc3⟩
      go_wp2_with fail
      go_ret
      exact ⟨rfl, HB3.out.trans ((hc3.below (Nat.le_refl _) (fun _ e => e.elim)).mono HB3.out.size)⟩
end Go.Proofs.YtnmcjkabihihiaaGreatDoor

/- From what the cards list to the memory that package lex's calls ask; and what every law's row comes to: it returns true, and below the memory that came in nothing has turned. -/
namespace Go.Proofs.YtnmcjkabihihiaaGreatDoor
open Go Go.ChangeShapes Go.WideShapes Go.ChangeAt Go.RowKit Go.Lib

theorem own : ownKnob Tryz.prog.godebug = none := by kernel_rfl
theorem laidOut : laidOutB Tryz.prog = true := by kernel_rfl

def lays5 : List (String × DataW Unit) := [("math/bits.deBruijn32tab", Rows.laid_math_bits_deBruijn32tab), ("math/bits.deBruijn64tab", Rows.laid_math_bits_deBruijn64tab), ("internal/strconv.uint64pow10", Rows.laid_internal_strconv_uint64pow10), ("strconv.ErrRange", Rows.laid_strconv_ErrRange), ("strconv.ErrSyntax", Rows.laid_strconv_ErrSyntax)]
theorem gErrR : Tryz.prog.globalNamed "strconv.ErrRange" = some 1 := by kernel_rfl

theorem sentinel {W : World} {n : String} {nm : String} {d : DataW Unit} {g : Nat} (hg : Tryz.prog.globalNamed n = some g) (hty : (Tryz.prog.globals[g]?).map (·.type) = some 170) (h : VarReads Tryz.prog W n (.iface nm d)) : ∃ tp p, W.var? Tryz.prog n = some #[.iface tp p] := by
  obtain ⟨g', t, cs, fuel, p, hg', hty', hvar, hd⟩ := h
  obtain rfl := Option.some.inj (hg.symm.trans hg')
  obtain rfl := Option.some.inj (hty.symm.trans hty')
  obtain ⟨f1, u, v, hcs, -, -⟩ := iface_of_trod Tryz.underlying170 hd
  obtain ⟨l⟩ := cs
  obtain rfl : l = [.iface u v] := hcs
  exact ⟨u, v, hvar⟩

theorem env_of_laid {W : World} (h : laidMetH Tryz.prog lays5 W) : Env W := by
  rw [MakeChecks.laidMetH_plain _ _ _ (by kernel_rfl)] at h
  obtain ⟨tp, p, hv⟩ := sentinel gErrR (by kernel_rfl) (Lib.laidMet.reads h (n := "strconv.ErrRange") (d := Rows.laid_strconv_ErrRange) (by simp [lays5]))
  exact ⟨tp, p, by rw [World.var?_cell gErrR hv 0]; rfl⟩

theorem trodAll_below {H : Type} {enc : TypeId × Value → H} {P : Program} (hl : laidOutB P = true) {W W' : World} (hb : Below W.heap.size W W') (ts : List TypeId) : ∀ {vs : List Value} {ds : List (DataW H)} {ps : List MemPlace},
    (∀ t ∈ ts, P.readableRec t = true ∧ t < P.types.size) → DataW.TrodAll enc P W 0 (fun _ => true) true ts vs ds ps → (∀ x ∈ ps, x.block < W.heap.size) → DataW.TrodAll enc P W' 0 (fun b => decide (b < W.heap.size)) true ts vs ds ps := by
  induction ts with
  | nil =>
    intro vs ds ps _ h _
    cases vs <;> cases ds <;> exact h
  | cons t ts ih =>
    intro vs ds ps hr h hlt
    cases vs with
    | nil => cases ds <;> cases h
    | cons v vs => cases ds with
      | nil => cases h
      | cons d ds =>
        obtain ⟨p, q, h1, h2, rfl⟩ := h
        have ht := hr t (List.mem_cons_self ..)
        exact ⟨p, q, Below.trod hl ht.1 ht.2 h1 hb fun x hx => hlt x (List.mem_append_left _ hx), ih (fun u hu => hr u (List.mem_cons_of_mem _ hu)) h2 fun x hx => hlt x (List.mem_append_right _ hx), rfl⟩

theorem post_true {H : Type} {enc : TypeId × Value → H} {fn : Func} {s : ChangeSpec} {W W' : World} {args : Array Value} {ds : List (DataW H)} {before : List MemPlace} (hv : s.vars = []) (hrt : fn.resultTypes = #[4])
    (hr : ∀ t ∈ fn.params.toList, Tryz.prog.readableRec t = true ∧ t < Tryz.prog.types.size) (hs : s.fn H ds = { results := [.lit (.bool true)], args := ds, vars := [] })
    (hW : DataW.Whole enc Tryz.prog fn.params.toList s.vars false W args.toList ds [] before) (hb : Below W.heap.size W W') : s.post enc Tryz.prog fn false true false false W args (.bool true) W' := by
  have hW' := hW
  obtain ⟨p, q, hA, hV, rfl, hfz, _⟩ := hW
  rw [hv] at hV
  obtain rfl : q = [] := hV
  refine ⟨ds, [], p ++ [], [], p, [], hW', ?_, ?_, ?_, hb.frame _, fun h => by cases h⟩
  · rw [List.append_nil, hs, hrt]; exact trodAll_mk1 (shut_bool Tryz.underlying4 _)
  · rw [List.append_nil, hs]
    exact trodAll_below laidOut hb _ hr hA fun x hx => by simpa using hW'.lt x (List.mem_append_left _ hx)
  · rw [List.append_nil, hs, hv]; rfl
end Go.Proofs.YtnmcjkabihihiaaGreatDoor
