/- What the rows of this seat share: an input of bytes as it came in, the answer 'true', the input as it was. -/
import Derived.Test.YtahnhohccbnhjaaRows
import Derived.Test.YtahnhohccbnhjaaA
import Derived.WalkKit
import Derived.ProofKit
import Derived.OpenShut
import Derived.LaidMore
import Derived.Lay
import Derived.SizedLaws
import Derived.ChangeSlices
import Derived.Lib.LaidU8
namespace Go.Proofs.Ytahnhohccbnhjaa
open Go Go.ChangeShapes Go.WideShapes Go.ChangeAt Go.RowKit Go.Lib

theorem own : ownKnob Try.prog.godebug = none := by kernel_rfl
theorem laidOut : laidOutB Try.prog = true := by kernel_rfl
theorem cells5 : Try.prog.cellsOf 5 = 1 := by kernel_rfl
theorem bytes5 : Try.prog.bytesOf 5 = 1 := by kernel_rfl

theorem trodAll_below {H : Type} {enc : TypeId × Value → H} {P : Program} (hl : laidOutB P = true) {W W' : World} (hb : Below W.heap.size W W') (ts : List TypeId) : ∀ {vs : List Value} {ds : List (DataW H)} {ps : List MemPlace},
    (∀ t ∈ ts, P.readableRec t = true ∧ t < P.types.size) → DataW.TrodAll enc P W 0 (fun _ => true) true ts vs ds ps → (∀ x ∈ ps, x.block < W.heap.size) → DataW.TrodAll enc P W' 0 (fun b => decide (b < W.heap.size)) true ts vs ds ps := by
  induction ts with
  | nil =>
    intro vs ds ps _ h _
    cases vs <;> cases ds <;> exact h
  | cons t ts ih =>
    intro vs ds ps hr h hlt
    cases vs with
    | nil => cases ds <;> cases h
    | cons v vs => cases ds with
      | nil => cases h
      | cons d ds =>
        obtain ⟨p, q, h1, h2, rfl⟩ := h
        have ht := hr t (List.mem_cons_self ..)
        exact ⟨p, q, Below.trod hl ht.1 ht.2 h1 hb fun x hx => hlt x (List.mem_append_left _ hx), ih (fun u hu => hr u (List.mem_cons_of_mem _ hu)) h2 fun x hx => hlt x (List.mem_append_right _ hx), rfl⟩

theorem post_true {H : Type} {enc : TypeId × Value → H} {fn : Func} {s : ChangeSpec} {W W' : World} {args : Array Value} {ds : List (DataW H)} {before : List MemPlace} (hv : s.vars = []) (hrt : fn.resultTypes = #[4])
    (hr : ∀ t ∈ fn.params.toList, Try.prog.readableRec t = true ∧ t < Try.prog.types.size) (hs : s.fn H ds = { results := [.lit (.bool true)], args := ds, vars := [] })
    (hW : DataW.Whole enc Try.prog fn.params.toList s.vars false W args.toList ds [] before) (hb : Below W.heap.size W W') : s.post enc Try.prog fn false true false false W args (.bool true) W' := by
  have hW' := hW
  obtain ⟨p, q, hA, hV, rfl, hfz, _⟩ := hW
  rw [hv] at hV
  obtain rfl : q = [] := hV
  refine ⟨ds, [], p ++ [], [], p, [], hW', ?_, ?_, ?_, hb.frame _, fun h => by cases h⟩
  · rw [List.append_nil, hs, hrt]; exact trodAll_mk1 (shut_bool Try.underlying4 _)
  · rw [List.append_nil, hs]
    exact trodAll_below laidOut hb _ hr hA fun x hx => by simpa using hW'.lt x (List.mem_append_left _ hx)
  · rw [List.append_nil, hs, hv]; rfl

theorem u8_wf {z : Int} (h : (Lit.int .u8 z).wf = true) : 0 ≤ z ∧ z < 256 := by
  simp [Lit.wf, IntKind.min, IntKind.max, IntKind.signed, IntKind.bits] at h
  omega

theorem toNat_getD (zs : List Int) (i : Nat) : (zs.map Int.toNat).getD i 0 = (zs.getD i 0).toNat := by
  rw [List.getD_eq_getElem?_getD, List.getD_eq_getElem?_getD, List.getElem?_map]
  cases zs[i]? <;> rfl

set_option maxRecDepth 100000 in
/-- A list of bytes that came in. -/
theorem in_bytes {H : Type} {enc : TypeId × Value → H} {W : World} {b0 : Nat} {v : Value} {d : DataW H} {ps : List MemPlace} (hval : Value.okWide Try.prog W .any b0 35 v) (hd : DataW.Trod enc Try.prog W 0 (fun _ => true) true 35 v d ps) :
    ∃ (p : Option Addr) (c : Nat) (ns : List Nat), v = .slice p ns.length c ∧ ns.length ≤ c ∧ c ≤ maxLen ∧ ((p = none ∧ ns = [] ∧ c = 0) ∨ ∃ ad, p = some ad) ∧ bytesL ns ∧ ByIn W.heap.size W p ns ∧
      (c = 0 ∨ ∃ el sp, d = .slice el sp ∧ el.length + sp.length = c) := by
  obtain ⟨a, len, cap, rfl⟩ := okWide_slice Try.underlying35 hval
  obtain ⟨fuel, hf⟩ := hd
  rcases open_ints Try.underlying35 Try.underlying5 cells5 hf with ⟨hcs, _⟩ | ⟨a', len', cap', zs, hcs, _, hl, hm, hlen, hx, hcell, hwf⟩
  · have hcs' : (Value.slice a len cap) = .slice none 0 0 := by simpa [Value.cells] using hcs
    rw [hcs']
    exact ⟨none, 0, [], rfl, by simp, by simp, .inl ⟨rfl, rfl, rfl⟩, fun x hx => absurd hx (by simp), fun i hi => absurd hi (by simp), .inl rfl⟩
  · have hcs' : (Value.slice a len cap) = .slice (some a') len' cap' := by simpa [Value.cells] using hcs
    rw [hcs']
    rw [if_pos rfl] at hlen
    have hle : len' ≤ zs.length := by omega
    have hmem : ∀ i, i < zs.length → zs.getD i 0 ∈ zs := fun i hi => by
      rw [List.getD_eq_getElem?_getD, List.getElem?_eq_getElem hi]
      exact List.getElem_mem _
    have hget : ∀ i, i < len' → ((zs.take len').map Int.toNat).getD i 0 = (zs.getD i 0).toNat := fun i hi => by
      rw [toNat_getD, List.getD_eq_getElem?_getD, List.getElem?_take_of_lt hi, ← List.getD_eq_getElem?_getD]
    have hnl : ((zs.take len').map Int.toNat).length = len' := by rw [List.length_map, List.length_take, Nat.min_eq_left hle]
    refine ⟨some a', cap', (zs.take len').map Int.toNat, by rw [hnl], by rw [hnl]; omega, hm, .inr ⟨a', rfl⟩, bytesL_of (fun i hi => ?_), fun i hi => ?_, .inr ⟨_, _, (Prod.mk.inj hx).1, ?_⟩⟩
    · rw [hnl] at hi
      rw [hget i hi]
      have := u8_wf (hwf _ (hmem i (by omega)))
      omega
    · rw [hnl] at hi
      have h0 := hcell 0 (by omega)
      have h1 := hcell i (by omega)
      have h2 := u8_wf (hwf _ (hmem i (by omega)))
      obtain ⟨b, off, sp⟩ := a'
      rw [show (⟨b, off, sp⟩ : Addr).add 0 = ⟨b, off, sp⟩ from by simp [Addr.add]] at h0
      obtain rfl : sp = none := cell_spot h0
      rw [show (⟨b, off, none⟩ : Addr).add i = ⟨b, off + i, none⟩ from by unfold Addr.add; split <;> simp_all] at h1
      refine ⟨b, off, rfl, World.block_lt_of_cell? _ _ h0, ?_⟩
      rw [hget i hi, show (((zs.getD i 0).toNat : Nat) : Int) = zs.getD i 0 from by omega]
      exact h1
    · simp [lits]
      omega

/-- A list of bytes is no longer than memory is wide. -/
theorem in_reach {H : Type} {c : Nat} {d : DataW H} (hd : c = 0 ∨ ∃ el sp, d = .slice el sp ∧ el.length + sp.length = c) (h : ∀ el sp, d = .slice el sp → (el.length + sp.length) * Try.checked.prog.bytesOf 5 ≤ reachBytes) : c ≤ 140737488351232 := by
  rcases hd with rfl | ⟨el, sp, rfl, he⟩
  · omega
  · have := h el sp rfl
    rw [show Try.checked.prog.bytesOf 5 = 1 from bytes5, he] at this
    have hr : reachBytes = 140737488351232 := rfl
    omega
end Go.Proofs.Ytahnhohccbnhjaa
