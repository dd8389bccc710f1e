/- Text of package bits: for every label, every list of names and every memory in which the library's tables lie. -/
import Derived.Test.YthmcckdoneiglaaGreatDoorF
import Derived.Test.YthmcckdoneiglaaGreatDoorBld
namespace Go.Proofs.YthmcckdoneiglaaGreatDoor
open Go Go.RowKit Go.Shelf

attribute [local go_sem] Oper.semAt_some

def textStep (zs : List ByteArray) (acc : List UInt8) (k : Nat) : List UInt8 := acc ++ ((if 1 < acc.length then [32] else []) ++ itemB zs k)
def textAcc (zs : List ByteArray) (l : List Nat) : List UInt8 := l.foldl (textStep zs) [123]
def textB (zs : List ByteArray) (x : Nat) : List UInt8 := textAcc zs (bitsOf x) ++ [125]

theorem textAcc_snoc (zs : List ByteArray) (l : List Nat) (k : Nat) : textAcc zs (l ++ [k]) = textAcc zs l ++ ((if 1 < (textAcc zs l).length then [32] else []) ++ itemB zs k) := by
  simp only [textAcc, List.foldl_append, List.foldl_cons, List.foldl_nil]
  rfl

theorem itemB_short (zs : List ByteArray) (hz : ∀ k, (zs.getD k ByteArray.empty).size ≤ 32) (k : Nat) (hk : k < 64) : (itemB zs k).length ≤ 32 := by
  unfold itemB
  split
  · have := dec_short ⟨k, hk⟩
    simp only at this
    simp only [numB, List.length_cons]; omega
  · rw [← Lib.size_eq]; exact hz k

theorem textAcc_short (zs : List ByteArray) (hz : ∀ k, (zs.getD k ByteArray.empty).size ≤ 32) (l : List Nat) (hl : ∀ k ∈ l, k < 64) : (textAcc zs l).length ≤ 1 + 33 * l.length := by
  have key : ∀ (l : List Nat) (acc : List UInt8), (∀ k ∈ l, k < 64) → (l.foldl (textStep zs) acc).length ≤ acc.length + 33 * l.length := by
    intro l
    induction l with
    | nil => intro acc _; simp
    | cons k l ih =>
      intro acc h
      have h1 := ih (textStep zs acc k) (fun j hj => h j (by simp [hj]))
      have h2 := itemB_short zs hz k (h k (by simp))
      have h3 : (textStep zs acc k).length ≤ acc.length + 33 := by
        unfold textStep
        simp only [List.length_append]
        split <;> simp <;> omega
      simp only [List.foldl_cons, List.length_cons]
      omega
  have := key l [123] hl
  simpa [textAcc] using this

theorem IsBuilderF.turned {T e : TypeId} {B b : Nat} {bs : List Value} {W W' : World} {row : Option Nat} (h : Lib.IsBuilderF T e B b bs W) (hg : W.grownBy W' row)
    (hr : ∀ r, row = some r → ∃ o : Obj, W.heap[r]? = some o ∧ o.isCells = false) : Lib.IsBuilderF T e B b bs W' := by
  have key : ∀ p, Lib.BuilderAtF T e B b p bs W → Lib.BuilderAtF T e B b p bs W' := by
    intro p hp
    have hlt := hp.lt
    obtain ⟨hB, v, hb, hown, hne⟩ := hp
    refine ⟨hB, v, ?_, hown.kept hg ?_, hne⟩
    · refine (hg.block b hlt ?_).trans hb
      intro e'
      obtain ⟨o, ho, hc⟩ := hr b e'.symm
      rw [hb] at ho; cases ho; cases hc
    · rcases hown.2 with ⟨rfl, _⟩ | ⟨g, cap, cur, fz, rfl, _, hgb, _⟩
      · exact .inl rfl
      · refine .inr fun e' => ?_
        obtain ⟨o, ho, hc⟩ := hr g (by simpa [Value.ownBlock] using e'.symm)
        rw [hgb] at ho; cases ho; cases hc
  exact h.elim (fun x => .inl (key _ x)) (fun x => .inr (key _ x))

theorem keepsOthers_of {b : Nat} {W W' : World} (hs : W.heap.size ≤ W'.heap.size) (hb : ∃ cs T fz, W.heap[b]? = some (.cells cs T fz)) (h : Lib.OthersKept 5 (some b) W W') : KeepsOthers W W' where
  size := hs
  same := fun k o hk ho => by
    refine h k o hk ?_ ?_
    · intro e
      obtain ⟨cs, T, fz, hc⟩ := hb
      obtain rfl : k = b := by injection e
      rw [hc] at hk; cases hk; cases ho
    · intro c fz e
      subst e
      cases ho

theorem IsBuilderF.is_cells {T e : TypeId} {B b : Nat} {bs : List Value} {W : World} (h : Lib.IsBuilderF T e B b bs W) : ∃ cs T' fz, W.heap[b]? = some (.cells cs T' fz) := by
  rcases h with ⟨_, v, hb, _⟩ | ⟨_, v, hb, _⟩
  · exact ⟨_, _, _, hb⟩
  · exact ⟨_, _, _, hb⟩

set_option maxRecDepth 100000 in
set_option maxHeartbeats 2000000 in
theorem text_any (x : Nat) (hx : x < 18446744073709551616) (p : Option Addr) (c : Nat) (ns : List ByteArray) (w : World) (hn : ns.length ≤ maxLen) (hz : ∀ i, (ns.getD i ByteArray.empty).size ≤ maxLen) (hs : StrIn w.heap.size w p ns)
    (hT : TabAt 0 Lib.deBruijn64tab w) (h8 : 8 ≤ w.heap.size) (hshort : ∀ k, ((gl ns (min ns.length 64)).getD k ByteArray.empty).size ≤ 32) :
    Calls Tryz.prog 29 #[.int .u64 (x : Int), .slice p ns.length c] w fun e w' => e = .returned (.string ⟨(textB (gl ns (min ns.length 64)) x).toArray⟩) ∧ Below w.heap.size w w' := by
  have hgood := good_any p c ns w hn hz hs
  generalize gl ns (min ns.length 64) = zs at hgood hshort ⊢
  refine (callsIn_wide (n := 3)).1 ?_
  refine callsIn_of_wp_marks Tryz.func29 rfl trivial ?_ rfl
  simp only [Tryz.ntmps29, List.size_toArray, List.length_cons, List.length_nil, Nat.reduceAdd, Nat.reduceSub, Array.replicate_succ, Array.replicate_zero, List.push_toArray, List.append_toArray, List.nil_append, List.cons_append]
  gi_wp2_with (refine ⟨trivial, ?_⟩; gi_at_call 34; refine (callsIn_wide.2 hgood).mono ?_; rintro e w1 ⟨rfl, hG, hB1, hs1⟩)
  have hI0 : Lib.IsBuilderF 61 5 (w1.heap.size + 1) (w1.heap.size + 1) [] ((w1.alloc (.cells #[.slice (some ⟨w.heap.size, 0, none⟩) 64 64] 51)).alloc (.cells #[.pointer none, .slice none 0 0] 61)) := by
    have := Lib.IsBuilderF.of (Lib.fresh_isBuilder 61 5 (w1.alloc (.cells #[.slice (some ⟨w.heap.size, 0, none⟩) 64 64] 51)))
    rwa [World.size_alloc] at this
  refine ⟨trivial, ?_⟩
  gi_at_call 35
  refine (callsIn_wide.2 (writeByte_any (w1.heap.size + 1) (w1.heap.size + 1) [] 123 _ hI0 (by simp) (by simp))).mono ?_
  rintro e w3 ⟨rfl, hI1, hB3, hO3⟩
  have hBox : ((w1.alloc (.cells #[.slice (some ⟨w.heap.size, 0, none⟩) 64 64] 51)).alloc (.cells #[.pointer none, .slice none 0 0] 61)).cell? ⟨w1.heap.size, 0, none⟩ = some (.slice (some ⟨w.heap.size, 0, none⟩) 64 64) := by
    rw [World.cell?_alloc_lt _ _ _ (by simp), World.cell?_alloc_new]; rfl
  have hG2 : GoodAt ((w1.alloc (.cells #[.slice (some ⟨w.heap.size, 0, none⟩) 64 64] 51)).alloc (.cells #[.pointer none, .slice none 0 0] 61)) w.heap.size zs :=
    hG.below (((Below.refl w1.heap.size w1).alloc (Nat.le_refl _) _).alloc (by simp) _) hs1
  have hB2 : Below w.heap.size w ((w1.alloc (.cells #[.slice (some ⟨w.heap.size, 0, none⟩) 64 64] 51)).alloc (.cells #[.pointer none, .slice none 0 0] 61)) :=
    (hB1.alloc (by omega) _).alloc (by simp; omega) _
  have hsz2 : ((w1.alloc (.cells #[.slice (some ⟨w.heap.size, 0, none⟩) 64 64] 51)).alloc (.cells #[.pointer none, .slice none 0 0] 61)).heap.size = w1.heap.size + 1 + 1 := by simp
  generalize ((w1.alloc (.cells #[.slice (some ⟨w.heap.size, 0, none⟩) 64 64] 51)).alloc (.cells #[.pointer none, .slice none 0 0] 61)) = w2 at hBox hG2 hB2 hsz2 hB3 hO3
  have hs3 := hB3.size
  rw [hsz2] at hs3
  have hBoxB := (hB3.cell (p := ⟨w1.heap.size, 0, none⟩) (by simp)).trans hBox
  have hG3 := hG2.below hB3 (by omega)
  have hB13 := hB2.trans (hB3.mono (by omega))
  have hT3 := tab_below (by omega) hB13 hT
  clear hBox hG2 hB2 hB3 hO3 hG hB1 hgood hT hs hz hI0 hsz2
  generalize hbb : w1.heap.size = b at *
  gi_wp2_with (refine ⟨trivial, ?_⟩; gi_at_call 26; refine (callsIn_wide.2 (each_any x w3)).mono ?_; rintro e w' ⟨rfl, rfl⟩)
  have hBuild : Lib.IsBuilderF 61 5 (b + 1) (b + 1) (Lib.byteCells (textAcc zs [])) w3 := Or.inr hI1
  refine wpIn_rangeFunc_ownF rfl (by omega) (gf := 31) (lb := #[.pointer (some ⟨w3.heap.size, 0, none⟩)]) rfl trivial (enters_of Tryz.func31 (by kernel_rfl) rfl)
    (each_stops (3 - 1) w3.heap.size (b + 1) x (by omega) hx _ (by simp; omega) (by simp) (tab_below (n₀ := w3.heap.size) (by omega) ((Below.refl _ _).alloc (Nat.le_refl _) _) hT3) (by rw [World.cell?_alloc_new]; rfl)) belowK_t (belowK_b (by simp; omega)) (Below.refl _ _) (fun _ => rfl)
    (fun pre W => Lib.IsBuilderF 61 5 (b + 1) (b + 1) (Lib.byteCells (textAcc zs (pre.map (·.val)))) W ∧ Below (b + 1) w3 W)
    (fun _ _ _ => False)
    (OwnFrom.and (fun s A B row hs hg hr => IsBuilderF.turned hs hg (fun r e => (hr r e).2)) (ownFrom_below (by omega) (by simp; omega)))
    (fun _ _ _ _ _ hs _ _ => hs)
    ⟨hBuild.alloc _, (Below.refl _ _).alloc (by omega) _⟩
    (fun k => { tmps := #[.int .u64 (x : Int), .slice p ns.length c, undef, undef, .string ⟨#[]⟩, .pointer (some ⟨b, 0, none⟩), .pointer (some ⟨b + 1, 0, none⟩), .int .i64 (k.val : Int), .slice p ns.length c, .slice (some ⟨w.heap.size, 0, none⟩) 64 64, .nilIface, .int .u64 (x : Int), .func (.func 31) #[] #[.pointer (some ⟨w3.heap.size, 0, none⟩)], .int .i64 (k.val : Int), undef, undef, undef, undef, undef, undef, undef, undef, undef], defers := [] }) ?assign ?body ?done ?stop
  case assign =>
    intro l k W K hK
    gi_wp2
    exact hK
  case body =>
    rintro l pre k W ⟨hIb, hBW⟩ hlt
    have hlen := same_flip (Tryz.Builder_Len_f (b + 1) (b + 1) _ W hIb)
    have hacc := textAcc_short zs hshort (pre.map (·.val)) (fun j hj => by obtain ⟨q, _, rfl⟩ := List.mem_map.1 hj; exact q.2)
    rw [List.length_map] at hacc
    rw [Lib.byteCells_length] at hlen
    have hstep := textAcc_snoc zs (pre.map (·.val)) k.val
    have hbW : b + 1 ≤ W.heap.size := by have := hBW.size; omega
    have hits := itemB_short zs hshort k.val k.2
    generalize textAcc zs (pre.map (·.val)) = acc at hIb hlen hacc hstep
    by_cases hgt : 1 < acc.length
    · have hw1 := writeByte_any (b + 1) (b + 1) (Lib.byteCells acc) 32 W hIb (by rw [Lib.byteCells_length]; omega) hbW
      rw [if_pos hgt] at hstep
      have HSTEP := Lib.hid hstep
      clear hstep
      gi_wp2_with (refine ⟨trivial, ?_⟩; gi_at_call 36; refine (CallsIn.inRound l (callsIn_wide.2 hlen)).mono ?_; rintro e w' ⟨rfl, rfl⟩)
      refine ⟨trivial, ?_⟩
      gi_at_call 35
      refine (CallsIn.inRound l (callsIn_wide.2 hw1)).mono ?_
      rintro e W1 ⟨rfl, hI1', hb1, ho1⟩
      have hBW1 := hBW.trans hb1
      have hbox := (hBW1.cell (p := ⟨b, 0, none⟩) (by simp)).trans hBoxB
      have hitem := item_any k.val w.heap.size k.2 zs W1 (hG3.below hBW1 (by omega))
      have hI2' : Lib.IsBuilderF 61 5 (b + 1) (b + 1) (Lib.byteCells acc ++ [.int .u8 32]) W1 := Or.inr hI1'
      have hw2 := writeString_any (b + 1) (b + 1) (Lib.byteCells acc ++ [.int .u8 32]) ⟨(itemB zs k.val).toArray⟩ W1 hI2' (by rw [List.length_append, Lib.byteCells_length]; simp [ByteArray.size]; omega) (by have := hb1.size; omega)
      gi_wp2_with (refine ⟨trivial, ?_⟩; gi_at_call 38; refine (CallsIn.inRound l (callsIn_wide.2 hitem)).mono ?_; rintro e w' ⟨rfl, rfl⟩)
      refine ⟨trivial, ?_⟩
      gi_at_call 37
      refine (CallsIn.inRound l (callsIn_wide.2 hw2)).mono ?_
      rintro e W2 ⟨rfl, hI3', hb2, ho2⟩
      gi_wp2
      have hcells : Lib.byteCells (textAcc zs ((pre ++ [k]).map (·.val))) = Lib.byteCells acc ++ [.int .u8 32] ++ Lib.strCells ⟨(itemB zs k.val).toArray⟩ := by
        rw [List.map_append]
        show Lib.byteCells (textAcc zs (pre.map (·.val) ++ [k.val])) = _
        rw [HSTEP.out]
        simp [Lib.byteCells, Lib.strCells]
      exact ⟨(keepsOthers_of hb1.size (IsBuilderF.is_cells hIb) ho1).trans (keepsOthers_of hb2.size (IsBuilderF.is_cells hI2') ho2), hb1.trans hb2, by rw [hcells]; exact Or.inr hI3', hBW1.trans hb2⟩
    · rw [if_neg hgt] at hstep
      have HSTEP := Lib.hid hstep
      clear hstep
      have hbox := (hBW.cell (p := ⟨b, 0, none⟩) (by simp)).trans hBoxB
      have hitem := item_any k.val w.heap.size k.2 zs W (hG3.below hBW (by omega))
      have hw2 := writeString_any (b + 1) (b + 1) (Lib.byteCells acc) ⟨(itemB zs k.val).toArray⟩ W hIb (by rw [Lib.byteCells_length]; simp [ByteArray.size]; omega) hbW
      gi_wp2_with (first | (refine ⟨trivial, ?_⟩; gi_at_call 36; refine (CallsIn.inRound l (callsIn_wide.2 hlen)).mono ?_; rintro e w' ⟨rfl, rfl⟩) | (refine ⟨trivial, ?_⟩; gi_at_call 38; refine (CallsIn.inRound l (callsIn_wide.2 hitem)).mono ?_; rintro e w' ⟨rfl, rfl⟩))
      refine ⟨trivial, ?_⟩
      gi_at_call 37
      refine (CallsIn.inRound l (callsIn_wide.2 hw2)).mono ?_
      rintro e W2 ⟨rfl, hI3', hb2, ho2⟩
      gi_wp2
      have hcells : Lib.byteCells (textAcc zs ((pre ++ [k]).map (·.val))) = Lib.byteCells acc ++ Lib.strCells ⟨(itemB zs k.val).toArray⟩ := by
        rw [List.map_append]
        show Lib.byteCells (textAcc zs (pre.map (·.val) ++ [k.val])) = _
        rw [HSTEP.out]
        simp [Lib.byteCells, Lib.strCells]
      exact ⟨keepsOthers_of hb2.size (IsBuilderF.is_cells hIb) ho2, hb2, by rw [hcells]; exact Or.inr hI3', hBW.trans hb2⟩
  case done =>
    rintro D ys W hD hS ⟨hIb, hBW⟩ hK
    rw [hS] at hIb
    have hbW : b + 1 ≤ W.heap.size := by have := hBW.size; omega
    have hacc := textAcc_short zs hshort (bitsOf x) (bitsOf_lt x)
    have hl64 := bitsOf_length x
    have hle := popN_le 64 x
    have hD' : b + 1 < D := by simp at hD; omega
    have HT := Lib.hid (show textB zs x = textAcc zs (bitsOf x) ++ [125] from rfl)
    generalize textAcc zs (bitsOf x) = acc at hIb hacc HT
    have hw1 := writeByte_any (b + 1) (b + 1) (Lib.byteCells acc) 125 W hIb (by rw [Lib.byteCells_length]; omega) hbW
    gi_wp2_with fail
    refine ⟨trivial, ?_⟩
    gi_at_call 35
    refine (callsIn_wide.2 hw1).mono ?_
    rintro e W1 ⟨rfl, hI1', hb1, ho1⟩
    have hk1 := keepsOthers_of hb1.size (IsBuilderF.is_cells hIb) ho1
    have hI2' : Lib.IsBuilderF 61 5 (b + 1) (b + 1) (Lib.byteCells (acc ++ [125])) W1 := by
      have : Lib.byteCells (acc ++ [125]) = Lib.byteCells acc ++ [.int .u8 125] := by simp [Lib.byteCells]
      rw [this]; exact Or.inr hI1'
    have hst := Tryz.Builder_String_any_k (b + 1) (b + 1) (acc ++ [125]) W1 hI2' (by have := hb1.size; omega)
    gi_wp2_with fail
    refine ⟨trivial, ?_⟩
    gi_at_call 39
    refine (callsIn_wide.2 hst).mono ?_
    rintro e W2 ⟨rfl, hI3', hb2, ho2⟩
    have hk2 := keepsOthers_of hb2.size (IsBuilderF.is_cells hI2') ho2
    have hK2 := hk2.same D _ (hk1.same D _ hK rfl) rfl
    gi_wp2
    refine ⟨by simp, .inl ⟨_, _, rfl, run_takeDeferred hK2, ?_⟩⟩
    refine ⟨_, results_tmp rfl _ _ _, ?_, ?_⟩
    · exact ret_str (by rw [HT.out])
    · exact (hB13.trans ((hBW.trans (hb1.trans hb2)).mono (by omega))).trans (belowK_b (w := w) (Nat.le_refl _) W2 D _ _ (by omega) hK2 rfl rfl)
  case stop =>
    rintro D cc pre W _ _ h _
    exact h.elim
end Go.Proofs.YthmcckdoneiglaaGreatDoor
