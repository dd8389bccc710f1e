/- The document's reader, byte by byte; a new reader; what a reader tells of itself; in every memory. -/
import Derived.Test.YtfmeclfoknjheaaJ
import Derived.Deep.RegionHeld3
import Derived.Deep.DeepCutAuto
import Derived.Deep.CutBlock
namespace Go.Proofs.Ytfmeclfoknjheaa
open Go Go.RowKit

/-- Its error alone, its place alone. -/
theorem Rd.failed {B R : Nat} {q : Option Addr} {cap : Nat} {l : List Nat} {pos e : Nat} {w : World} (h : Rd B R q cap l pos e w) (f : Nat) : Rd B R q cap l pos f (w.setCell ⟨R, 2, none⟩ (.int .i64 (f : Int))) := by
  have n02 : (⟨R, 2, none⟩ : Addr) ≠ ⟨R, 0, none⟩ := by simp
  have n21 : (⟨R, 2, none⟩ : Addr) ≠ ⟨R, 1, none⟩ := by simp
  refine ⟨?_, ?_, World.cell?_setCell_same _ _ _ h.c2, ?_, ?_, h.le, h.lc, h.cm, h.nil, fun i hi => ?_, h.low⟩
  · rw [World.cell?_setCell_other _ _ _ _ n02]; exact h.c0
  · rw [World.cell?_setCell_other _ _ _ _ n21]; exact h.c1
  · rw [World.frozen?_setCell]; exact h.f1
  · rw [World.frozen?_setCell]; exact h.f2
  · obtain ⟨b, off, he, hlt, hc⟩ := h.row i hi
    have hl := h.low
    refine ⟨b, off, he, hlt, ?_⟩
    rw [World.cell?_setCell_other _ _ _ _ (fun e => by have := congrArg Addr.block e; simp at this; omega)]
    exact hc
theorem Rd.went {B R : Nat} {q : Option Addr} {cap : Nat} {l : List Nat} {pos e : Nat} {w : World} (h : Rd B R q cap l pos e w) (k : Nat) (hk : k ≤ l.length) : Rd B R q cap l k e (w.setCell ⟨R, 1, none⟩ (.int .i64 (k : Int))) := by
  have n01 : (⟨R, 1, none⟩ : Addr) ≠ ⟨R, 0, none⟩ := by simp
  have n12 : (⟨R, 1, none⟩ : Addr) ≠ ⟨R, 2, none⟩ := by simp
  refine ⟨?_, World.cell?_setCell_same _ _ _ h.c1, ?_, ?_, ?_, hk, h.lc, h.cm, h.nil, fun i hi => ?_, h.low⟩
  · rw [World.cell?_setCell_other _ _ _ _ n01]; exact h.c0
  · rw [World.cell?_setCell_other _ _ _ _ n12]; exact h.c2
  · rw [World.frozen?_setCell]; exact h.f1
  · rw [World.frozen?_setCell]; exact h.f2
  · obtain ⟨b, off, he, hlt, hc⟩ := h.row i hi
    have hl := h.low
    refine ⟨b, off, he, hlt, ?_⟩
    rw [World.cell?_setCell_other _ _ _ _ (fun e => by have := congrArg Addr.block e; simp at this; omega)]
    exact hc

set_option maxRecDepth 100000 in
set_option maxHeartbeats 2000000 in
theorem refByte_any {B R : Nat} {q : Option Addr} {cap : Nat} {l : List Nat} {pos e : Nat} {w : World} (h : Rd B R q cap l pos e w) :
    Calls Try.prog 29 #[.pointer (some ⟨R, 0, none⟩)] w fun r w' => r = .returned (.int .u8 ((rdB l pos e).1 : Nat)) ∧ Rd B R q cap l (rdB l pos e).2.1 (rdB l pos e).2.2 w' ∧ But R w w' := by
  have hmx : Try.prog.follows .mixedOrders = true := by kernel_rfl
  by_cases he : e = 0
  · subst he
    have h0 := h.c0
    have h1 := h.c1
    have h2 := h.c2
    have f1 := h.f1
    have f2 := h.f2
    have hle := h.le
    have hlc := h.lc
    have hcm := h.cm
    unfold maxLen at hcm
    by_cases hend : pos = l.length
    · have hst : rdB l pos 0 = (0, pos, 30) := by
        unfold rdB
        rw [if_pos rfl, List.drop_eq_nil_of_le (by omega)]; rfl
      rw [hst]
      have hpe : ((pos : Int) == (l.length : Int)) = true := by simp; omega
      have HF := Lib.hid (fun (w1 : World) (hB : Below w.heap.size w w1) => (h.below hB).failed 30)
      clear h hst hend
      generalize l.length = n at h0 hle hlc hpe
      go_enter Try.func29, Try.ntmps29
      go_wp2_with fail
      go_region
      go_wp2
      go_ret
      exact ⟨rfl, HF.out _ ((Below.refl _ _).drew), (But.of_below ((Below.refl _ _).drew)).trans (But.set _ 2 _)⟩
    · have hlt : pos < l.length := by omega
      obtain ⟨b, o, rfl, _, hc⟩ := h.row pos hlt
      have hst : rdB l pos 0 = (l.getD pos 0, pos + 1, 0) := by
        unfold rdB
        rw [if_pos rfl, List.drop_eq_getElem_cons hlt, List.getD_eq_getElem?_getD, List.getElem?_eq_getElem hlt]; rfl
      rw [hst]
      have hpe : ((pos : Int) == (l.length : Int)) = false := by simp; omega
      have hpl : (pos : Int) < (l.length : Int) := by omega
      have hsb : (pos : Int) + 1 < 9223372036854775808 := by omega
      have HF := Lib.hid (fun (w1 : World) (hB : Below w.heap.size w w1) => (h.below hB).went (pos + 1) hlt)
      have HLo := Lib.hid (show ¬ b = R from by have := h.low; omega)
      clear h hst hend
      obtain ⟨n, hn⟩ : ∃ n, l.length = n := ⟨_, rfl⟩
      rw [hn] at h0 hle hlc hpe hpl hlt
      have HN := Lib.hid hn
      clear hn
      generalize l.getD pos 0 = x at hc ⊢
      go_enter Try.func29, Try.ntmps29
      go_wp2_with fail
      go_region
      go_wp2_with fail
      have hcast : ((pos + 1 : Nat) : Int) = (pos : Int) + 1 := by omega
      have hR := HF.out w (Below.refl _ _)
      have hBu := But.set (R := R) w 1 (.int .i64 ((pos : Int) + 1))
      rw [hcast] at hR
      generalize w.setCell ⟨R, 1, none⟩ (.int .i64 ((pos : Int) + 1)) = wz at hR hBu ⊢
      have z0 := hR.c0
      have z1 := hR.c1
      have z2 := hBu.cell hc (by simp; exact HLo.out)
      rw [hcast] at z1
      have HZ := Lib.hid (And.intro hR hBu)
      have HN2 := HN.out
      rw [HN2] at z0
      clear hR hBu h0 h1 h2 hc f1 f2 HF hcast HN2
      go_region
      go_wp2
      go_ret
      exact ⟨rfl, HZ.out.1.below (Below.refl _ _).drew.drew, HZ.out.2.trans (But.of_below ((Below.refl _ _).drew.drew))⟩
  · have hst : rdB l pos e = (0, pos, e) := if_neg he
    rw [hst]
    have h2 := h.c2
    have hei : ((e : Int) != 0) = true := by simp; omega
    have HH := Lib.hid h
    clear hst h he
    go_enter Try.func29, Try.ntmps29
    go_wp2
    go_ret
    exact ⟨rfl, HH.out, But.of_below (Below.refl _ _)⟩


set_option maxRecDepth 100000 in
theorem new_any (p : Option Addr) (c : Nat) (ns : List Nat) (hp : (p = none ∧ ns = [] ∧ c = 0) ∨ ∃ ad, p = some ad) (hb : ns.length ≤ 140737488355328) (w : World) (hs : ByIn w.heap.size w p ns) :
    Calls Try.prog 23 #[.slice p ns.length c] w fun e w' => ∃ R q cap, e = .returned (.pointer (some ⟨R, 0, none⟩)) ∧ Rd R R q cap ns 0 0 w' ∧ w.heap.size ≤ R ∧ (∀ a, q = some a → w.heap.size ≤ a.block) ∧ Below w.heap.size w w' := by
  have h1 := Lib.hid (clone_any p c ns hp hb w hs)
  clear hs hp
  go_enter Try.func23, Try.ntmps23
  go_wp2_with fail
  refine h1.out.mono ?_
  rintro e w1 ⟨v, rfl, hO, hB⟩
  obtain ⟨q, d, rfl⟩ := hO.slice
  have HO := Lib.hid (And.intro hO hB)
  clear h1 hO hB
  go_wp2
  go_ret
  obtain ⟨hO, hB⟩ := HO.out
  refine ⟨w1.heap.size, q, d, rfl, ?_, hB.size, ?_, hB.trans ((Below.refl _ _).alloc hB.size _)⟩
  case refine_2 =>
    intro a ha
    subst ha
    exact (hO.lt a.block rfl).1
  have hnil : (q = none ∧ ns = [] ∧ d = 0) ∨ ∃ ad, q = some ad ∧ (0 < d → ad.spot = none) := by
    rcases hO.2 with ⟨h1, h2⟩ | ⟨g, cap, cur, h1, _⟩
    · simp only [Value.slice.injEq] at h1
      exact .inl ⟨h1.1, List.eq_nil_of_length_eq_zero h2, h1.2.2⟩
    · simp only [Value.slice.injEq] at h1
      exact .inr ⟨⟨g, 0, none⟩, h1.1, fun _ => rfl⟩
  have hcap : ns.length ≤ d ∧ d ≤ maxLen := by
    rcases hO.2 with ⟨h1, h2⟩ | ⟨g, cap, cur, h1, _, _, h3, h4, _⟩
    · simp only [Value.slice.injEq] at h1
      rw [h2, h1.2.2]
      exact ⟨Nat.le_refl _, Nat.zero_le _⟩
    · simp only [Value.slice.injEq] at h1
      rw [h1.2.2]
      exact ⟨h3, h4⟩
  have hcell : ∀ i v, (#[Value.slice q ns.length d, .int .i64 0, .int .i64 0] : Array Value)[i]? = some v → (w1.alloc (.cells #[Value.slice q ns.length d, .int .i64 0, .int .i64 0] 74)).cell? ⟨w1.heap.size, i, none⟩ = some v := fun i v h => by
    rw [World.cell?_alloc_new]; exact h
  refine ⟨hcell 0 _ rfl, hcell 1 _ rfl, hcell 2 _ rfl, World.frozen?_alloc_new .., World.frozen?_alloc_new .., Nat.zero_le _, hcap.1, hcap.2, hnil, ?_, Nat.le_refl _⟩
  have hin := hO.in
  intro i hi
  obtain ⟨b, off, he, hlt, hc⟩ := hin i hi
  exact ⟨b, off, he, hlt, (((Below.refl w1.heap.size w1).alloc (Nat.le_refl _) _).cell (p := ⟨b, off + i, none⟩) hlt).trans hc⟩

set_option maxRecDepth 100000 in
theorem Left_any {B R : Nat} {q : Option Addr} {cap : Nat} {l : List Nat} {pos e : Nat} {w : World} (h : Rd B R q cap l pos e w) :
    Calls Try.prog 30 #[.pointer (some ⟨R, 0, none⟩)] w fun r w' => r = .returned (.int .i64 ((l.length : Int) - (pos : Int))) ∧ Below w.heap.size w w' := by
  have h0 := h.c0
  have h1 := h.c1
  have hle := h.le
  have hlc := h.lc
  have hcm := h.cm
  unfold maxLen at hcm
  have hle' : (pos : Int) ≤ (l.length : Int) := by omega
  clear h
  generalize l.length = n at h0 hle hlc hle' ⊢
  go_enter Try.func30, Try.ntmps30
  go_wp2
  go_region
  go_wp2
  go_ret
  exact ⟨rfl, (Below.refl _ _).drew⟩
set_option maxRecDepth 100000 in
theorem At_any {B R : Nat} {q : Option Addr} {cap : Nat} {l : List Nat} {pos e : Nat} {w : World} (h : Rd B R q cap l pos e w) :
    Calls Try.prog 31 #[.pointer (some ⟨R, 0, none⟩)] w fun r w' => r = .returned (.int .i64 (pos : Int)) ∧ w' = w := by
  have h1 := h.c1
  clear h
  go_enter Try.func31, Try.ntmps31
  go_wp2
  go_ret
  exact ⟨rfl, rfl⟩
set_option maxRecDepth 100000 in
theorem Err_any {B R : Nat} {q : Option Addr} {cap : Nat} {l : List Nat} {pos e : Nat} {w : World} (h : Rd B R q cap l pos e w) :
    Calls Try.prog 32 #[.pointer (some ⟨R, 0, none⟩)] w fun r w' => r = .returned (.int .i64 (e : Int)) ∧ w' = w := by
  have h1 := h.c2
  clear h
  go_enter Try.func32, Try.ntmps32
  go_wp2
  go_ret
  exact ⟨rfl, rfl⟩
end Go.Proofs.Ytfmeclfoknjheaa
