/- What the laws know. -/
import Derived.Test.YtlpdjfimefjmcaaGreatNtPR12
namespace Go.Proofs.YtlpdjfimefjmcaaGreat
open Go Go.RowKit Go.Proofs.Mm

theorem slx_row {w : World} {g : Nat} {L : List Value} {T : TypeId} (h : InB w g L.toArray T) : ∀ j u, L[j]? = some u → wC w ⟨g, 0 + j, none⟩ = some u := fun j u hu => by
  rw [Nat.zero_add]
  exact h.cell (by simpa using hu)
section
variable {w : World} {T1 T2 T3 T4 : TypeId}
theorem strX {g : Nat} {n : ByteArray} (h : InB w g #[.string n] T1) : StrR false (wC w) (.slice (some ⟨g, 0, none⟩) 1 1) [n] :=
  slx_mk (l := [n]) (slx_row (L := [.string n]) h) (Enc.one rfl) (by simp) (by decide) (by simp)
theorem exsX {gm ge : Nat} (h2 : InB w gm #[.int .i64 1, .int .i64 1, .string ⟨#[]⟩] T2) (h3 : InB w ge #[.slice (some ⟨gm, 0, none⟩) 1 1] T3) : ExsR false (wC w) (.slice (some ⟨ge, 0, none⟩) 1 1) [[tx1]] :=
  slx_mk (l := [[tx1]]) (slx_row (L := [.slice (some ⟨gm, 0, none⟩) 1 1]) h3) (Enc.one ⟨_, rfl, slx_mk (l := [tx1]) (slx_row (L := [.int .i64 1, .int .i64 1, .string ⟨#[]⟩]) h2) (Enc.one rfl) (by simp) (by decide) (by simp)⟩) (by simp) (by decide) (by simp)
/-- One assignment of 1, as it lies. -/
theorem bdX {gt gm ge gs : Nat} {n : ByteArray} (h1 : InB w gt #[.string n] T1) (h2 : InB w gm #[.int .i64 1, .int .i64 1, .string ⟨#[]⟩] T2) (h3 : InB w ge #[.slice (some ⟨gm, 0, none⟩) 1 1] T3) (h4 : InB w gs #[.int .i64 1, .string ⟨#[]⟩, .slice (some ⟨gt, 0, none⟩) 1 1, .slice (some ⟨ge, 0, none⟩) 1 1] T4) : BdR false (wC w) (.slice (some ⟨gs, 0, none⟩) 1 1) [stX n] :=
  slx_mk (l := [stX n]) (slx_row (L := [.int .i64 1, .string ⟨#[]⟩, .slice (some ⟨gt, 0, none⟩) 1 1, .slice (some ⟨ge, 0, none⟩) 1 1]) h4) (Enc.one ⟨_, _, rfl, strX h1, exsX h2 h3⟩) (by simp) (by decide) (by simp)
/-- One function, as it lies. -/
theorem fnX {gf g k c : Nat} {nm : ByteArray} {b : List StZ} (h : InB w gf #[.string nm, .int .u64 0, .slice none 0 0, .slice none 0 0, .slice none 0 0, .slice (some ⟨g, 0, none⟩) k c] T1) (hb : BdR false (wC w) (.slice (some ⟨g, 0, none⟩) k c) b) : FnsR false (wC w) (.slice (some ⟨gf, 0, none⟩) 1 1) [⟨nm, 0, [], [], [], b⟩] :=
  slx_mk (l := ([⟨nm, 0, [], [], [], b⟩] : List FnZ)) (slx_row (L := [.string nm, .int .u64 0, .slice none 0 0, .slice none 0 0, .slice none 0 0, .slice (some ⟨g, 0, none⟩) k c]) h) (Enc.one ⟨_, _, _, _, rfl, (by show 0 < u64B; decide), slx_nil, slx_nil, slx_nil, hb⟩) (by simp) (by decide) (by simp)
end
theorem twoDe : Enc (fun c d => c = deZ d ∧ d.label < u64B) [.string ⟨#[120]⟩, .int .u64 0, .string ⟨#[120]⟩, .int .u64 0] sA.globals :=
  ⟨deZ ⟨⟨#[120]⟩, 0⟩, deZ ⟨⟨#[120]⟩, 0⟩ ++ [], rfl, ⟨rfl, by decide⟩, deZ ⟨⟨#[120]⟩, 0⟩, [], rfl, ⟨rfl, by decide⟩, rfl⟩
theorem eqFlB (a b c x y z : Int) (w : World) : (binOp .eql 31 (.agg #[.int .i64 a, .int .i64 b, .int .i64 c]) (.agg #[.int .i64 x, .int .i64 y, .int .i64 z])).run Tryz.prog w = .ok (.bool (a == x && (b == y && c == z))) w := by
  rw [run_eql_struct, eqFlt]; rfl
theorem five_cells {w : World} {b : Nat} {x0 x1 x2 x3 x4 : Value} {T : TypeId} (h : InB w b #[x0, x1, x2, x3, x4] T) : w.cell? ⟨b, 0, none⟩ = some x0 ∧ w.cell? ⟨b, 1, none⟩ = some x1 ∧ w.cell? ⟨b, 2, none⟩ = some x2 ∧ w.cell? ⟨b, 3, none⟩ = some x3 ∧ w.cell? ⟨b, 4, none⟩ = some x4 :=
  ⟨h.cell rfl, h.cell rfl, h.cell rfl, h.cell rfl, h.cell rfl⟩
theorem smA : SmallZ sA := by unfold SmallZ; decide
theorem smB : SmallZ sB := by unfold SmallZ; decide
theorem smC : SmallZ sC := by unfold SmallZ; decide
theorem smD : SmallZ sD := by unfold SmallZ; decide
set_option maxRecDepth 100000 in
set_option maxHeartbeats 8000000 in
theorem known_p (W : World) : Calls Tryz.prog 5 #[] W (RetB (.bool true) W) := by
  have heq := eqFlB
  go_enter Tryz.func5, Tryz.ntmps5
  go_wp2_with fail
  obtain ⟨V1, hV1⟩ : ∃ V1, ((((((W.alloc (.cells #[.string ⟨#[120]⟩, .int .u64 0, .string ⟨#[120]⟩, .int .u64 0] 37)).alloc (.cells #[.slice none 0 0, .slice (some ⟨W.heap.size, 0, none⟩) 2 2, .slice none 0 0, .slice none 0 0, .slice none 0 0] 27)).alloc (.cells #[.string ⟨#[120]⟩] 9)).alloc (.cells #[.int .i64 1, .int .i64 1, .string ⟨#[]⟩] 62)).alloc (.cells #[.slice (some ⟨W.heap.size + 1 + 1 + 1, 0, none⟩) 1 1] 60)).alloc (.cells #[.int .i64 1, .string ⟨#[]⟩, .slice (some ⟨W.heap.size + 1 + 1, 0, none⟩) 1 1, .slice (some ⟨W.heap.size + 1 + 1 + 1 + 1, 0, none⟩) 1 1] 47)) = V1 := ⟨_, rfl⟩
  have i0 : InB V1 (W.heap.size) #[.string ⟨#[120]⟩, .int .u64 0, .string ⟨#[120]⟩, .int .u64 0] 37 := by rw [← hV1]; exact (InB.new' _ _ (by simp)).le (bl_al (bl_al (bl_al (bl_al (bl_al (Below.refl _ _) _) _) _) _) _)
  have i1 : InB V1 (W.heap.size + 1) #[.slice none 0 0, .slice (some ⟨W.heap.size, 0, none⟩) 2 2, .slice none 0 0, .slice none 0 0, .slice none 0 0] 27 := by rw [← hV1]; exact (InB.new' _ _ (by simp)).le (bl_al (bl_al (bl_al (bl_al (Below.refl _ _) _) _) _) _)
  have i2 : InB V1 (W.heap.size + 1 + 1) #[.string ⟨#[120]⟩] 9 := by rw [← hV1]; exact (InB.new' _ _ (by simp)).le (bl_al (bl_al (bl_al (Below.refl _ _) _) _) _)
  have i3 : InB V1 (W.heap.size + 1 + 1 + 1) #[.int .i64 1, .int .i64 1, .string ⟨#[]⟩] 62 := by rw [← hV1]; exact (InB.new' _ _ (by simp)).le (bl_al (bl_al (Below.refl _ _) _) _)
  have i4 : InB V1 (W.heap.size + 1 + 1 + 1 + 1) #[.slice (some ⟨W.heap.size + 1 + 1 + 1, 0, none⟩) 1 1] 60 := by rw [← hV1]; exact (InB.new' _ _ (by simp)).le (bl_al (Below.refl _ _) _)
  have i5 : InB V1 (W.heap.size + 1 + 1 + 1 + 1 + 1) #[.int .i64 1, .string ⟨#[]⟩, .slice (some ⟨W.heap.size + 1 + 1, 0, none⟩) 1 1, .slice (some ⟨W.heap.size + 1 + 1 + 1 + 1, 0, none⟩) 1 1] 47 := by rw [← hV1]; exact (InB.new' _ _ (by simp)).le (Below.refl _ _)
  have HBV1 := Lib.hid (show Below W.heap.size W V1 by rw [← hV1]; exact (bl_al (bl_al (bl_al (bl_al (bl_al (bl_al (Below.refl _ _) _) _) _) _) _) _))
  have HOA := Lib.hid (show SrcO false (wC V1) sA none 0 (some ⟨W.heap.size, 0, none⟩) 2 none 0 none 0 none 0 from ⟨slx_nil, slx_mk (l := sA.globals) (slx_row (L := [.string ⟨#[120]⟩, .int .u64 0, .string ⟨#[120]⟩, .int .u64 0]) i0) twoDe (by decide) (by decide) (by decide), slx_nil, slx_nil, slx_nil⟩)
  have HBX := Lib.hid (bdX i2 i3 i4 i5)
  have HI1 := Lib.hid i1
  rw [hV1]
  clear hV1 i0 i1 i2 i3 i4 i5
  obtain ⟨ba, hba⟩ : ∃ ba, W.heap.size + 1 = ba := ⟨_, rfl⟩
  simp only [hba] at HI1 HBX ⊢
  clear hba
  go_at_call 14
  refine (done_p _ rfl HBX.out (by decide)).mono ?_
  rintro e w1 ⟨g1, c1, rfl, hb1, hB1⟩
  have HB1 := Lib.hid (bl_tr HBV1.out hb1)
  have HBb := Lib.hid hb1
  have HD1 := Lib.hid hB1
  clear hb1 hB1 HBX
  go_wp2_with fail
  obtain ⟨V2, hV2⟩ : ∃ V2, (((((((w1.alloc (.cells #[.string ⟨#[102]⟩, .int .u64 0, .slice none 0 0, .slice none 0 0, .slice none 0 0, .slice (some ⟨g1, 0, none⟩) (1 + 1) c1] 43)).alloc (.cells #[.slice none 0 0, .slice none 0 0, .slice none 0 0, .slice none 0 0, .slice (some ⟨w1.heap.size, 0, none⟩) 1 1] 27)).alloc (.cells #[.string ⟨#[99]⟩, .int .u64 0] 37)).alloc (.cells #[.string ⟨#[99]⟩] 9)).alloc (.cells #[.int .i64 1, .int .i64 1, .string ⟨#[]⟩] 62)).alloc (.cells #[.slice (some ⟨w1.heap.size + 1 + 1 + 1 + 1, 0, none⟩) 1 1] 60)).alloc (.cells #[.int .i64 1, .string ⟨#[]⟩, .slice (some ⟨w1.heap.size + 1 + 1 + 1, 0, none⟩) 1 1, .slice (some ⟨w1.heap.size + 1 + 1 + 1 + 1 + 1, 0, none⟩) 1 1] 47)) = V2 := ⟨_, rfl⟩
  have i0 : InB V2 (w1.heap.size) #[.string ⟨#[102]⟩, .int .u64 0, .slice none 0 0, .slice none 0 0, .slice none 0 0, .slice (some ⟨g1, 0, none⟩) (1 + 1) c1] 43 := by rw [← hV2]; exact (InB.new' _ _ (by simp)).le (bl_al (bl_al (bl_al (bl_al (bl_al (bl_al (Below.refl _ _) _) _) _) _) _) _)
  have i1 : InB V2 (w1.heap.size + 1) #[.slice none 0 0, .slice none 0 0, .slice none 0 0, .slice none 0 0, .slice (some ⟨w1.heap.size, 0, none⟩) 1 1] 27 := by rw [← hV2]; exact (InB.new' _ _ (by simp)).le (bl_al (bl_al (bl_al (bl_al (bl_al (Below.refl _ _) _) _) _) _) _)
  have i2 : InB V2 (w1.heap.size + 1 + 1) #[.string ⟨#[99]⟩, .int .u64 0] 37 := by rw [← hV2]; exact (InB.new' _ _ (by simp)).le (bl_al (bl_al (bl_al (bl_al (Below.refl _ _) _) _) _) _)
  have i3 : InB V2 (w1.heap.size + 1 + 1 + 1) #[.string ⟨#[99]⟩] 9 := by rw [← hV2]; exact (InB.new' _ _ (by simp)).le (bl_al (bl_al (bl_al (Below.refl _ _) _) _) _)
  have i4 : InB V2 (w1.heap.size + 1 + 1 + 1 + 1) #[.int .i64 1, .int .i64 1, .string ⟨#[]⟩] 62 := by rw [← hV2]; exact (InB.new' _ _ (by simp)).le (bl_al (bl_al (Below.refl _ _) _) _)
  have i5 : InB V2 (w1.heap.size + 1 + 1 + 1 + 1 + 1) #[.slice (some ⟨w1.heap.size + 1 + 1 + 1 + 1, 0, none⟩) 1 1] 60 := by rw [← hV2]; exact (InB.new' _ _ (by simp)).le (bl_al (Below.refl _ _) _)
  have i6 : InB V2 (w1.heap.size + 1 + 1 + 1 + 1 + 1 + 1) #[.int .i64 1, .string ⟨#[]⟩, .slice (some ⟨w1.heap.size + 1 + 1 + 1, 0, none⟩) 1 1, .slice (some ⟨w1.heap.size + 1 + 1 + 1 + 1 + 1, 0, none⟩) 1 1] 47 := by rw [← hV2]; exact (InB.new' _ _ (by simp)).le (Below.refl _ _)
  have HV2 := Lib.hid (show Below w1.heap.size w1 V2 by rw [← hV2]; exact (bl_al (bl_al (bl_al (bl_al (bl_al (bl_al (bl_al (Below.refl _ _) _) _) _) _) _) _) _))
  have HOB := Lib.hid (show SrcO false (wC V2) sB none 0 none 0 none 0 none 0 (some ⟨w1.heap.size, 0, none⟩) 1 from ⟨slx_nil, slx_nil, slx_nil, slx_nil, fnX i0 (HD1.out.le (below_cle HV2.out))⟩)
  have HDC := Lib.hid (show DesR false (wC V2) (.slice (some ⟨w1.heap.size + 1 + 1, 0, none⟩) 1 1) sC.channels from slx_mk (l := sC.channels) (slx_row (L := [.string ⟨#[99]⟩, .int .u64 0]) i2) (Enc.one ⟨rfl, by decide⟩) (by decide) (by decide) (by decide))
  have HBX := Lib.hid (bdX i3 i4 i5 i6)
  have HI2 := Lib.hid i1
  rw [hV2]
  clear hV2 i0 i1 i2 i3 i4 i5 i6
  go_at_call 14
  refine (done_p _ rfl HBX.out (by decide)).mono ?_
  rintro e w2 ⟨g2, c2, rfl, hb2, hB2⟩
  have HB2 := Lib.hid hb2
  have HD2 := Lib.hid hB2
  clear hb2 hB2 HBX
  go_wp2_with fail
  obtain ⟨V3, hV3⟩ : ∃ V3, ((w2.alloc (.cells #[.string ⟨#[102]⟩, .int .u64 0, .slice none 0 0, .slice none 0 0, .slice none 0 0, .slice (some ⟨g2, 0, none⟩) (1 + 1) c2] 43)).alloc (.cells #[.slice none 0 0, .slice none 0 0, .slice none 0 0, .slice (some ⟨w1.heap.size + 1 + 1, 0, none⟩) 1 1, .slice (some ⟨w2.heap.size, 0, none⟩) 1 1] 27)) = V3 := ⟨_, rfl⟩
  have i0 : InB V3 (w2.heap.size) #[.string ⟨#[102]⟩, .int .u64 0, .slice none 0 0, .slice none 0 0, .slice none 0 0, .slice (some ⟨g2, 0, none⟩) (1 + 1) c2] 43 := by rw [← hV3]; exact (InB.new' _ _ (by simp)).le (bl_al (Below.refl _ _) _)
  have i1 : InB V3 (w2.heap.size + 1) #[.slice none 0 0, .slice none 0 0, .slice none 0 0, .slice (some ⟨w1.heap.size + 1 + 1, 0, none⟩) 1 1, .slice (some ⟨w2.heap.size, 0, none⟩) 1 1] 27 := by rw [← hV3]; exact (InB.new' _ _ (by simp)).le (Below.refl _ _)
  have HV3 := Lib.hid (show Below w2.heap.size w2 V3 by rw [← hV3]; exact (bl_al (bl_al (Below.refl _ _) _) _))
  have HOC := Lib.hid (show SrcO false (wC V3) sC none 0 none 0 none 0 (some ⟨w1.heap.size + 1 + 1, 0, none⟩) 1 (some ⟨w2.heap.size, 0, none⟩) 1 from ⟨slx_nil, slx_nil, slx_nil, HDC.out.le (below_cle (bl_tr HB2.out HV3.out)), fnX i0 (HD2.out.le (below_cle HV3.out))⟩)
  have HI3 := Lib.hid i1
  rw [hV3]
  clear hV3 i0 i1
  go_at_call 14
  refine (done_p _ (l := []) rfl slx_nil (by decide)).mono ?_
  rintro e w3 ⟨g3, c3, rfl, hb3, hB3⟩
  have HB3 := Lib.hid hb3
  have HD3 := Lib.hid hB3
  clear hb3 hB3
  have HIa := Lib.hid (HI1.out.le (bl_tr HBb.out (bl_tr HV2.out (bl_tr HB2.out (bl_tr HV3.out HB3.out)))))
  obtain ⟨k0, k1, k2, k3, k4⟩ := five_cells HIa.out
  have hlt := HIa.out.lt
  go_wp2_with fail
  obtain ⟨V4, hV4⟩ : ∃ V4, ((w3.alloc (.cells #[.string ⟨#[102]⟩, .int .u64 0, .slice none 0 0, .slice none 0 0, .slice none 0 0, .slice (some ⟨g3, 0, none⟩) (0 + 1) c3] 43)).alloc (.cells #[.slice none 0 0, .slice none 0 0, .slice none 0 0, .slice none 0 0, .slice (some ⟨w3.heap.size, 0, none⟩) 1 1] 27)) = V4 := ⟨_, rfl⟩
  have i0 : InB V4 (w3.heap.size) #[.string ⟨#[102]⟩, .int .u64 0, .slice none 0 0, .slice none 0 0, .slice none 0 0, .slice (some ⟨g3, 0, none⟩) (0 + 1) c3] 43 := by rw [← hV4]; exact (InB.new' _ _ (by simp)).le (bl_al (Below.refl _ _) _)
  have i1 : InB V4 (w3.heap.size + 1) #[.slice none 0 0, .slice none 0 0, .slice none 0 0, .slice none 0 0, .slice (some ⟨w3.heap.size, 0, none⟩) 1 1] 27 := by rw [← hV4]; exact (InB.new' _ _ (by simp)).le (Below.refl _ _)
  have HV4 := Lib.hid (show Below w3.heap.size w3 V4 by rw [← hV4]; exact (bl_al (bl_al (Below.refl _ _) _) _))
  have HOD := Lib.hid (show SrcO false (wC V4) sD none 0 none 0 none 0 none 0 (some ⟨w3.heap.size, 0, none⟩) 1 from ⟨slx_nil, slx_nil, slx_nil, slx_nil, fnX i0 (HD3.out.le (below_cle HV4.out))⟩)
  have HI4 := Lib.hid i1
  rw [hV4]
  clear hV4 i0 i1 k0 k1 k2 k3 k4 hlt
  have HX3 := Lib.hid (bl_tr HV3.out (bl_tr HB3.out HV4.out))
  have HX2 := Lib.hid (bl_tr HV2.out (bl_tr HB2.out HX3.out))
  have HX1 := Lib.hid (bl_tr HBb.out HX2.out)
  go_at_call 6
  refine (check_p HOA.out (below_cle HX1.out) smA).mono ?_
  rintro e y1 ⟨rfl, hy1⟩
  rw [chkA]
  unfold flA
  have HY1 := Lib.hid hy1
  clear hy1
  have HIb := Lib.hid ((HI2.out.le (bl_tr HB2.out HX3.out)).le HY1.out)
  obtain ⟨k0, k1, k2, k3, k4⟩ := five_cells HIb.out
  go_wp2_with fail
  clear k0 k1 k2 k3 k4
  go_at_call 6
  refine (check_p HOB.out (below_cle (bl_tr (bl_tr HB2.out HX3.out) HY1.out)) smB).mono ?_
  rintro e y2 ⟨rfl, hy2⟩
  rw [chkB]
  unfold flA
  have HY2 := Lib.hid (bl_tr HY1.out hy2)
  clear hy2
  have HIc := Lib.hid ((HI3.out.le (bl_tr HB3.out HV4.out)).le HY2.out)
  obtain ⟨k0, k1, k2, k3, k4⟩ := five_cells HIc.out
  go_wp2_with fail
  clear k0 k1 k2 k3 k4
  go_at_call 6
  refine (check_p HOC.out (below_cle (bl_tr (bl_tr HB3.out HV4.out) HY2.out)) smC).mono ?_
  rintro e y3 ⟨rfl, hy3⟩
  rw [chkC]
  unfold flA
  have HY3 := Lib.hid (bl_tr HY2.out hy3)
  clear hy3
  have HId := Lib.hid (HI4.out.le HY3.out)
  obtain ⟨k0, k1, k2, k3, k4⟩ := five_cells HId.out
  go_wp2_with fail
  clear k0 k1 k2 k3 k4
  go_at_call 6
  refine (check_p HOD.out (below_cle HY3.out) smD).mono ?_
  rintro e y4 ⟨rfl, hy4⟩
  rw [chkD]
  unfold flA
  have HY4 := Lib.hid (bl_tr HY3.out hy4)
  clear hy4
  go_wp2_with fail
  go_at_call 8
  refine (name_p _ _).mono ?_
  rintro e y5 ⟨rfl, rfl⟩
  rw [nmA1]
  go_wp2_with fail
  go_at_call 8
  refine (name_p _ _).mono ?_
  rintro e y6 ⟨rfl, rfl⟩
  rw [nmIf]
  go_wp2
  go_ret
  refine ⟨rfl, ?_⟩
  refine bl_tr HB1.out (bl_tr HX2.out HY4.out)
end Go.Proofs.YtlpdjfimefjmcaaGreat
