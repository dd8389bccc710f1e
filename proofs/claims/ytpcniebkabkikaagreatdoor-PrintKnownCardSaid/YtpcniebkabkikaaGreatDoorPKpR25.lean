/- PrintKnown, walked. (Written by a program.) -/
import Derived.Test.YtpcniebkabkikaaGreatDoorPKpR24
import Derived.Deep.RegionHeldLaw
namespace Go.Proofs.YtpcniebkabkikaaGreatDoor
open Go Go.RowKit Go.Proofs.Mm
open List renaming setIfInBounds_toArray → n1,set_cons_zero → n2,set_cons_succ → n3,getElem_toArray → n4,getElem_cons_zero → n5,getElem_cons_succ → n6
theorem infoDe6 : ∃ i,Tryz.prog.info? 59 = some i ∧ i.zero = some (.agg #[.string ⟨#[]⟩,.int .u64 0]) ∧ i.size = 2 ∧ i.bytes = 24 := by
  have h : (Tryz.prog.info? 59).map (fun i => (i.zero,i.size,i.bytes)) = some (some (.agg #[.string ⟨#[]⟩,.int .u64 0]),2,24) := by kernel_rfl
  cases hi : Tryz.prog.info? 59 with
  | none => rw [hi] at h; cases h
  | some i =>
    rw [hi] at h
    simp only [Option.map_some,Option.some.injEq,Prod.mk.injEq] at h
    obtain ⟨e1,e2,e3⟩ := h
    exact ⟨i,rfl,e1,e2,e3⟩
theorem one_de6 : ∀ u ∈ [Value.string ⟨#[120,120]⟩,.int .u64 0],u.oneCell' = true := by
  intro u h
  simp only [List.mem_cons,List.not_mem_nil,or_false] at h
  rcases h with rfl | rfl <;> rfl
theorem own_base {w : World} {B n size : Nat} {E : TypeId} {v : Value} {xs : List Value} (h : w.ownsRow B E size v n xs) : w.ownsRow 0 E size v n xs := by
  refine ⟨h.1,?_⟩
  rcases h.2 with h0 | ⟨g,cap,cur,e,_,rest⟩
  · exact .inl h0
  · exact .inr ⟨g,cap,cur,e,Nat.zero_le _,rest⟩
set_option maxRecDepth 100000 in
set_option maxHeartbeats 100000000 in
theorem known_p (W : World) (hE : EnvP W) : Calls Tryz.prog 5 #[] W fun e w' => e = .returned (.bool true) ∧ Below W.heap.size W w' := by
  have HE := Lib.hid hE
  have hmx : Tryz.prog.follows .mixedOrders = true := by kernel_rfl
  clear hE
  go_enter Tryz.func5,Tryz.ntmps5
  go_wp2_with fail
  go_at_call 19
  refine (name_l _ _).mono ?_
  rintro e w1 ⟨rfl,hb⟩
  have HB1 := Lib.hid hb
  clear hb
  have hb := alloc_below w1 (.cells #[.int .i64 2,.int .i64 0,.string ⟨#[97]⟩] 45)
  have HA1 := Lib.hid (on_below HB1.out hb)
  have HN1_1 := Lib.hid (KnC.new w1 ⟨#[97]⟩)
  clear hb
  go_wp2_with fail
  go_at_call 19
  refine (name_l _ _).mono ?_
  rintro e w2 ⟨rfl,hb⟩
  have HB2 := Lib.hid (on_below HA1.out hb)
  have HN1_2 := Lib.hid (HN1_1.out.keep hb)
  clear hb
  have hb := alloc_below w2 (.cells #[.int .i64 2,.int .i64 0,.string ⟨#[98]⟩] 45)
  have HA2 := Lib.hid (on_below HB2.out hb)
  have HN1_3 := Lib.hid (HN1_2.out.keep hb)
  have HN2_3 := Lib.hid (KnC.new w2 ⟨#[98]⟩)
  clear hb
  go_wp2_with fail
  go_at_call 19
  refine (name_l _ _).mono ?_
  rintro e w3 ⟨rfl,hb⟩
  have HB3 := Lib.hid (on_below HA2.out hb)
  have HN1_4 := Lib.hid (HN1_3.out.keep hb)
  have HN2_4 := Lib.hid (HN2_3.out.keep hb)
  clear hb
  have hb := alloc_below w3 (.cells #[.int .i64 2,.int .i64 0,.string ⟨#[99]⟩] 45)
  have HA3 := Lib.hid (on_below HB3.out hb)
  have HN1_5 := Lib.hid (HN1_4.out.keep hb)
  have HN2_5 := Lib.hid (HN2_4.out.keep hb)
  have HN3_5 := Lib.hid (KnC.new w3 ⟨#[99]⟩)
  clear hb
  go_upto_region 4 with fail
  have HS := Lib.hid (show KnS w1.heap.size w2.heap.size w3.heap.size _ from ⟨HN1_5.out,HN2_5.out,HN3_5.out⟩)
  clear HN1_1 HN1_2 HN1_3 HN1_4 HN1_5 HN2_3 HN2_4 HN2_5 HN3_5 HB1 HB2 HB3 HA1 HA2
  generalize (w3.alloc _ : World) = W4 at *
  generalize w1.heap.size = b1 at *
  generalize w2.heap.size = b2 at *
  generalize w3.heap.size = b3 at *
  have HSr := Lib.hid (show KnS b1 b2 b3 W4.drew from HS.out)
  have HBr := Lib.hid (show Below W.heap.size W W4.drew from HA3.out.drew)
  clear HS HA3
  refine wp_region_held_drew (S := KnS b1 b2 b3) hmx HSr.out (fun hHeld => ?_)
  refine wpAnyH_ready (rs := [0]) (by kernel_rfl) (by simp) ?_
  refine AllReadyH.cons rfl (fun K hK => ?_) AllReadyH.nil
  go_simp
  go_at_call 12
  refine (awake_p _ (HE.out.all HBr.out)).mono ?_
  rintro e w10 ⟨rfl,hb⟩
  have HB10 := Lib.hid (on_below HBr.out hb)
  have HS10 := Lib.hid (HSr.out.keep hb)
  clear hb
  refine hK.out _ _ HS10.out (fun hHeld2 => ?_)
  try simp only [Act.put,n1,n2,n3,n4,n5,n6]
  clear hK hHeld
  have hHeld := hHeld2
  clear hHeld2
  refine wpAnyH_take (i := 1) (v := .bool false) rfl (by kernel_rfl) (by kernel_rfl) (by kernel_rfl) (fun _ _ _ h => h) (Or.inl ⟨by rfl,fun w hSw => by obtain ⟨⟨s0,s1,s2⟩,⟨s3,s4,s5⟩,s6,s7,s8⟩ := hSw; go_simp⟩) (by assumption) ?_
  try simp only [Act.put,n1,n2,n3,n4,n5,n6]
  refine wpAnyH_take (i := 2) (v := .bool false) rfl (by kernel_rfl) (by kernel_rfl) (by kernel_rfl) (fun _ _ _ h => h) (Or.inl ⟨by rfl,fun w hSw => by obtain ⟨⟨s0,s1,s2⟩,⟨s3,s4,s5⟩,s6,s7,s8⟩ := hSw; go_simp⟩) (by assumption) ?_
  try simp only [Act.put,n1,n2,n3,n4,n5,n6]
  refine wpAnyH_take (i := 3) (v := .agg #[.int .i64 2,.int .i64 0,.string ⟨#[97]⟩]) rfl (by kernel_rfl) (by kernel_rfl) (by kernel_rfl) (fun _ _ _ h => h) (Or.inl ⟨by rfl,fun w hSw => by obtain ⟨⟨s0,s1,s2⟩,⟨s3,s4,s5⟩,s6,s7,s8⟩ := hSw; go_simp⟩) (by assumption) ?_
  try simp only [Act.put,n1,n2,n3,n4,n5,n6]
  refine wpAnyH_take (i := 4) (v := .agg #[.int .i64 2,.int .i64 0,.string ⟨#[98]⟩]) rfl (by kernel_rfl) (by kernel_rfl) (by kernel_rfl) (fun _ _ _ h => h) (Or.inl ⟨by rfl,fun w hSw => by obtain ⟨⟨s0,s1,s2⟩,⟨s3,s4,s5⟩,s6,s7,s8⟩ := hSw; go_simp⟩) (by assumption) ?_
  try simp only [Act.put,n1,n2,n3,n4,n5,n6]
  refine wpAnyH_take (i := 5) (v := .agg #[.int .i64 2,.int .i64 0,.string ⟨#[99]⟩]) rfl (by kernel_rfl) (by kernel_rfl) (by kernel_rfl) (fun _ _ _ h => h) (Or.inl ⟨by rfl,fun w hSw => by obtain ⟨⟨s0,s1,s2⟩,⟨s3,s4,s5⟩,s6,s7,s8⟩ := hSw; go_simp⟩) (by assumption) ?_
  try simp only [Act.put,n1,n2,n3,n4,n5,n6]
  refine wpAnyH_ready (rs := [6]) (by kernel_rfl) (by simp) ?_
  refine AllReadyH.cons rfl (fun K hK => ?_) AllReadyH.nil
  go_simp
  go_at_call 21
  refine (bin_l _ _).mono ?_
  rintro e w11 ⟨rfl,hb⟩
  have HB11 := Lib.hid (on_below HB10.out hb)
  have HS11 := Lib.hid (HS10.out.keep hb)
  clear hb
  clear HB10 HS10
  refine hK.out _ _ HS11.out (fun hHeld2 => ?_)
  try simp only [Act.put,n1,n2,n3,n4,n5,n6]
  clear hK hHeld
  have hHeld := hHeld2
  clear hHeld2
  refine wpAnyH_ready (rs := [7]) (by kernel_rfl) (by simp) ?_
  refine AllReadyH.cons rfl (fun K hK => ?_) AllReadyH.nil
  go_simp
  go_at_call 21
  refine (bin_l _ _).mono ?_
  rintro e w12 ⟨rfl,hb⟩
  have HB12 := Lib.hid (on_below HB11.out hb)
  have HS12 := Lib.hid (HS11.out.keep hb)
  clear hb
  clear HB11 HS11
  refine hK.out _ _ HS12.out (fun hHeld2 => ?_)
  try simp only [Act.put,n1,n2,n3,n4,n5,n6]
  clear hK hHeld
  have hHeld := hHeld2
  clear hHeld2
  refine wpAnyH_ready (rs := [8]) (by kernel_rfl) (by simp) ?_
  refine AllReadyH.cons rfl (fun K hK => ?_) AllReadyH.nil
  go_simp
  have hb := alloc_below w12 (.cells #[.int .i64 2,.int .i64 0,.string ⟨#[97]⟩,.int .i64 2,.int .i64 0,.string ⟨#[98]⟩,.int .i64 2,.int .i64 0,.string ⟨#[99]⟩,.int .i64 5,.int .i64 3,.string ⟨#[]⟩,.int .i64 5,.int .i64 1,.string ⟨#[]⟩] 45)
  have HB13 := Lib.hid (on_below HB12.out hb)
  have HS13 := Lib.hid (HS12.out.keep hb)
  have HQ13 := Lib.hid (show TmAt (w12.alloc (.cells #[.int .i64 2,.int .i64 0,.string ⟨#[97]⟩,.int .i64 2,.int .i64 0,.string ⟨#[98]⟩,.int .i64 2,.int .i64 0,.string ⟨#[99]⟩,.int .i64 5,.int .i64 3,.string ⟨#[]⟩,.int .i64 5,.int .i64 1,.string ⟨#[]⟩] 45)) w12.heap.size pk0 from World.alloc_heap_new _ _)
  clear hb
  generalize (w12.alloc _ : World) = w13 at hK HB13 HS13 HQ13 ⊢
  generalize w12.heap.size = g13 at hK HQ13 ⊢
  refine hK.out _ _ HS13.out (fun hHeld2 => ?_)
  try simp only [Act.put,n1,n2,n3,n4,n5,n6]
  clear hK hHeld
  have hHeld := hHeld2
  clear hHeld2
  refine wpAnyH_ready (rs := [9]) (by kernel_rfl) (by simp) ?_
  refine AllReadyH.cons rfl (fun K hK => ?_) AllReadyH.nil
  go_simp
  go_at_call 20
  refine (text_lit pk0_small pk0_is HQ13.out (HE.out.all HB13.out) rfl).mono ?_
  rintro e w14 ⟨rfl,hb⟩
  have HB14 := Lib.hid (on_below HB13.out hb)
  have HS14 := Lib.hid (HS13.out.keep hb)
  clear hb
  clear HB13 HS13
  refine hK.out _ _ HS14.out (fun hHeld2 => ?_)
  try simp only [Act.put,n1,n2,n3,n4,n5,n6]
  clear hK hHeld
  have hHeld := hHeld2
  clear hHeld2
  refine wpAnyH_take (i := 10) (v := .bool false) rfl (by kernel_rfl) (by kernel_rfl) (by kernel_rfl) (fun _ _ _ h => h) (Or.inl ⟨by rfl,fun w hSw => by obtain ⟨⟨s0,s1,s2⟩,⟨s3,s4,s5⟩,s6,s7,s8⟩ := hSw; go_simp⟩) (by assumption) ?_
  try simp only [Act.put,n1,n2,n3,n4,n5,n6]
  refine wpAnyH_take (i := 11) (v := .bool false) rfl (by kernel_rfl) (by kernel_rfl) (by kernel_rfl) (fun _ _ _ h => h) (Or.inl ⟨by rfl,fun w hSw => by obtain ⟨⟨s0,s1,s2⟩,⟨s3,s4,s5⟩,s6,s7,s8⟩ := hSw; go_simp⟩) (by assumption) ?_
  try simp only [Act.put,n1,n2,n3,n4,n5,n6]
  refine wpAnyH_take (i := 12) (v := .bool false) rfl (by kernel_rfl) (by kernel_rfl) (by kernel_rfl) (fun _ _ _ h => h) (Or.inl ⟨by rfl,fun w hSw => by obtain ⟨⟨s0,s1,s2⟩,⟨s3,s4,s5⟩,s6,s7,s8⟩ := hSw; go_simp⟩) (by assumption) ?_
  try simp only [Act.put,n1,n2,n3,n4,n5,n6]
  refine wpAnyH_take (i := 13) (v := .agg #[.int .i64 2,.int .i64 0,.string ⟨#[97]⟩]) rfl (by kernel_rfl) (by kernel_rfl) (by kernel_rfl) (fun _ _ _ h => h) (Or.inl ⟨by rfl,fun w hSw => by obtain ⟨⟨s0,s1,s2⟩,⟨s3,s4,s5⟩,s6,s7,s8⟩ := hSw; go_simp⟩) (by assumption) ?_
  try simp only [Act.put,n1,n2,n3,n4,n5,n6]
  refine wpAnyH_take (i := 14) (v := .agg #[.int .i64 2,.int .i64 0,.string ⟨#[98]⟩]) rfl (by kernel_rfl) (by kernel_rfl) (by kernel_rfl) (fun _ _ _ h => h) (Or.inl ⟨by rfl,fun w hSw => by obtain ⟨⟨s0,s1,s2⟩,⟨s3,s4,s5⟩,s6,s7,s8⟩ := hSw; go_simp⟩) (by assumption) ?_
  try simp only [Act.put,n1,n2,n3,n4,n5,n6]
  refine wpAnyH_take (i := 16) (v := .agg #[.int .i64 2,.int .i64 0,.string ⟨#[99]⟩]) rfl (by kernel_rfl) (by kernel_rfl) (by kernel_rfl) (fun _ _ _ h => h) (Or.inl ⟨by rfl,fun w hSw => by obtain ⟨⟨s0,s1,s2⟩,⟨s3,s4,s5⟩,s6,s7,s8⟩ := hSw; go_simp⟩) (by assumption) ?_
  try simp only [Act.put,n1,n2,n3,n4,n5,n6]
  refine wpAnyH_ready (rs := [15]) (by kernel_rfl) (by simp) ?_
  refine AllReadyH.cons rfl (fun K hK => ?_) AllReadyH.nil
  go_simp
  go_at_call 21
  refine (bin_l _ _).mono ?_
  rintro e w15 ⟨rfl,hb⟩
  have HB15 := Lib.hid (on_below HB14.out hb)
  have HS15 := Lib.hid (HS14.out.keep hb)
  clear hb
  clear HB14 HS14
  refine hK.out _ _ HS15.out (fun hHeld2 => ?_)
  try simp only [Act.put,n1,n2,n3,n4,n5,n6]
  clear hK hHeld
  have hHeld := hHeld2
  clear hHeld2
  refine wpAnyH_ready (rs := [17]) (by kernel_rfl) (by simp) ?_
  refine AllReadyH.cons rfl (fun K hK => ?_) AllReadyH.nil
  go_simp
  go_at_call 21
  refine (bin_l _ _).mono ?_
  rintro e w16 ⟨rfl,hb⟩
  have HB16 := Lib.hid (on_below HB15.out hb)
  have HS16 := Lib.hid (HS15.out.keep hb)
  clear hb
  clear HB15 HS15
  refine hK.out _ _ HS16.out (fun hHeld2 => ?_)
  try simp only [Act.put,n1,n2,n3,n4,n5,n6]
  clear hK hHeld
  have hHeld := hHeld2
  clear hHeld2
  refine wpAnyH_ready (rs := [18]) (by kernel_rfl) (by simp) ?_
  refine AllReadyH.cons rfl (fun K hK => ?_) AllReadyH.nil
  go_simp
  have hb := alloc_below w16 (.cells #[.int .i64 2,.int .i64 0,.string ⟨#[97]⟩,.int .i64 2,.int .i64 0,.string ⟨#[98]⟩,.int .i64 5,.int .i64 2,.string ⟨#[]⟩,.int .i64 2,.int .i64 0,.string ⟨#[99]⟩,.int .i64 5,.int .i64 2,.string ⟨#[]⟩] 45)
  have HB17 := Lib.hid (on_below HB16.out hb)
  have HS17 := Lib.hid (HS16.out.keep hb)
  have HQ17 := Lib.hid (show TmAt (w16.alloc (.cells #[.int .i64 2,.int .i64 0,.string ⟨#[97]⟩,.int .i64 2,.int .i64 0,.string ⟨#[98]⟩,.int .i64 5,.int .i64 2,.string ⟨#[]⟩,.int .i64 2,.int .i64 0,.string ⟨#[99]⟩,.int .i64 5,.int .i64 2,.string ⟨#[]⟩] 45)) w16.heap.size pk1 from World.alloc_heap_new _ _)
  clear hb
  generalize (w16.alloc _ : World) = w17 at hK HB17 HS17 HQ17 ⊢
  generalize w16.heap.size = g17 at hK HQ17 ⊢
  refine hK.out _ _ HS17.out (fun hHeld2 => ?_)
  try simp only [Act.put,n1,n2,n3,n4,n5,n6]
  clear hK hHeld
  have hHeld := hHeld2
  clear hHeld2
  refine wpAnyH_ready (rs := [19]) (by kernel_rfl) (by simp) ?_
  refine AllReadyH.cons rfl (fun K hK => ?_) AllReadyH.nil
  go_simp
  go_at_call 20
  refine (text_lit pk1_small pk1_is HQ17.out (HE.out.all HB17.out) rfl).mono ?_
  rintro e w18 ⟨rfl,hb⟩
  have HB18 := Lib.hid (on_below HB17.out hb)
  have HS18 := Lib.hid (HS17.out.keep hb)
  clear hb
  clear HB17 HS17
  refine hK.out _ _ HS18.out (fun hHeld2 => ?_)
  try simp only [Act.put,n1,n2,n3,n4,n5,n6]
  clear hK hHeld
  have hHeld := hHeld2
  clear hHeld2
  refine wpAnyH_take (i := 20) (v := .bool false) rfl (by kernel_rfl) (by kernel_rfl) (by kernel_rfl) (fun _ _ _ h => h) (Or.inl ⟨by rfl,fun w hSw => by obtain ⟨⟨s0,s1,s2⟩,⟨s3,s4,s5⟩,s6,s7,s8⟩ := hSw; go_simp⟩) (by assumption) ?_
  try simp only [Act.put,n1,n2,n3,n4,n5,n6]
  refine wpAnyH_take (i := 21) (v := .bool false) rfl (by kernel_rfl) (by kernel_rfl) (by kernel_rfl) (fun _ _ _ h => h) (Or.inl ⟨by rfl,fun w hSw => by obtain ⟨⟨s0,s1,s2⟩,⟨s3,s4,s5⟩,s6,s7,s8⟩ := hSw; go_simp⟩) (by assumption) ?_
  try simp only [Act.put,n1,n2,n3,n4,n5,n6]
  refine wpAnyH_take (i := 22) (v := .bool false) rfl (by kernel_rfl) (by kernel_rfl) (by kernel_rfl) (fun _ _ _ h => h) (Or.inl ⟨by rfl,fun w hSw => by obtain ⟨⟨s0,s1,s2⟩,⟨s3,s4,s5⟩,s6,s7,s8⟩ := hSw; go_simp⟩) (by assumption) ?_
  try simp only [Act.put,n1,n2,n3,n4,n5,n6]
  refine wpAnyH_take (i := 23) (v := .agg #[.int .i64 2,.int .i64 0,.string ⟨#[97]⟩]) rfl (by kernel_rfl) (by kernel_rfl) (by kernel_rfl) (fun _ _ _ h => h) (Or.inl ⟨by rfl,fun w hSw => by obtain ⟨⟨s0,s1,s2⟩,⟨s3,s4,s5⟩,s6,s7,s8⟩ := hSw; go_simp⟩) (by assumption) ?_
  try simp only [Act.put,n1,n2,n3,n4,n5,n6]
  refine wpAnyH_take (i := 24) (v := .agg #[.int .i64 2,.int .i64 0,.string ⟨#[98]⟩]) rfl (by kernel_rfl) (by kernel_rfl) (by kernel_rfl) (fun _ _ _ h => h) (Or.inl ⟨by rfl,fun w hSw => by obtain ⟨⟨s0,s1,s2⟩,⟨s3,s4,s5⟩,s6,s7,s8⟩ := hSw; go_simp⟩) (by assumption) ?_
  try simp only [Act.put,n1,n2,n3,n4,n5,n6]
  refine wpAnyH_take (i := 25) (v := .agg #[.int .i64 2,.int .i64 0,.string ⟨#[99]⟩]) rfl (by kernel_rfl) (by kernel_rfl) (by kernel_rfl) (fun _ _ _ h => h) (Or.inl ⟨by rfl,fun w hSw => by obtain ⟨⟨s0,s1,s2⟩,⟨s3,s4,s5⟩,s6,s7,s8⟩ := hSw; go_simp⟩) (by assumption) ?_
  try simp only [Act.put,n1,n2,n3,n4,n5,n6]
  refine wpAnyH_ready (rs := [26]) (by kernel_rfl) (by simp) ?_
  refine AllReadyH.cons rfl (fun K hK => ?_) AllReadyH.nil
  go_simp
  go_at_call 21
  refine (bin_l _ _).mono ?_
  rintro e w19 ⟨rfl,hb⟩
  have HB19 := Lib.hid (on_below HB18.out hb)
  have HS19 := Lib.hid (HS18.out.keep hb)
  clear hb
  clear HB18 HS18
  refine hK.out _ _ HS19.out (fun hHeld2 => ?_)
  try simp only [Act.put,n1,n2,n3,n4,n5,n6]
  clear hK hHeld
  have hHeld := hHeld2
  clear hHeld2
  refine wpAnyH_ready (rs := [27]) (by kernel_rfl) (by simp) ?_
  refine AllReadyH.cons rfl (fun K hK => ?_) AllReadyH.nil
  go_simp
  go_at_call 21
  refine (bin_l _ _).mono ?_
  rintro e w20 ⟨rfl,hb⟩
  have HB20 := Lib.hid (on_below HB19.out hb)
  have HS20 := Lib.hid (HS19.out.keep hb)
  clear hb
  clear HB19 HS19
  refine hK.out _ _ HS20.out (fun hHeld2 => ?_)
  try simp only [Act.put,n1,n2,n3,n4,n5,n6]
  clear hK hHeld
  have hHeld := hHeld2
  clear hHeld2
  refine wpAnyH_ready (rs := [28]) (by kernel_rfl) (by simp) ?_
  refine AllReadyH.cons rfl (fun K hK => ?_) AllReadyH.nil
  go_simp
  have hb := alloc_below w20 (.cells #[.int .i64 2,.int .i64 0,.string ⟨#[97]⟩,.int .i64 2,.int .i64 0,.string ⟨#[98]⟩,.int .i64 2,.int .i64 0,.string ⟨#[99]⟩,.int .i64 5,.int .i64 2,.string ⟨#[]⟩,.int .i64 5,.int .i64 2,.string ⟨#[]⟩] 45)
  have HB21 := Lib.hid (on_below HB20.out hb)
  have HS21 := Lib.hid (HS20.out.keep hb)
  have HQ21 := Lib.hid (show TmAt (w20.alloc (.cells #[.int .i64 2,.int .i64 0,.string ⟨#[97]⟩,.int .i64 2,.int .i64 0,.string ⟨#[98]⟩,.int .i64 2,.int .i64 0,.string ⟨#[99]⟩,.int .i64 5,.int .i64 2,.string ⟨#[]⟩,.int .i64 5,.int .i64 2,.string ⟨#[]⟩] 45)) w20.heap.size pk2 from World.alloc_heap_new _ _)
  clear hb
  generalize (w20.alloc _ : World) = w21 at hK HB21 HS21 HQ21 ⊢
  generalize w20.heap.size = g21 at hK HQ21 ⊢
  refine hK.out _ _ HS21.out (fun hHeld2 => ?_)
  try simp only [Act.put,n1,n2,n3,n4,n5,n6]
  clear hK hHeld
  have hHeld := hHeld2
  clear hHeld2
  refine wpAnyH_ready (rs := [29]) (by kernel_rfl) (by simp) ?_
  refine AllReadyH.cons rfl (fun K hK => ?_) AllReadyH.nil
  go_simp
  go_at_call 20
  refine (text_lit pk2_small pk2_is HQ21.out (HE.out.all HB21.out) rfl).mono ?_
  rintro e w22 ⟨rfl,hb⟩
  have HB22 := Lib.hid (on_below HB21.out hb)
  have HS22 := Lib.hid (HS21.out.keep hb)
  clear hb
  clear HB21 HS21
  refine hK.out _ _ HS22.out (fun hHeld2 => ?_)
  try simp only [Act.put,n1,n2,n3,n4,n5,n6]
  clear hK hHeld
  have hHeld := hHeld2
  clear hHeld2
  refine wpAnyH_take (i := 30) (v := .bool false) rfl (by kernel_rfl) (by kernel_rfl) (by kernel_rfl) (fun _ _ _ h => h) (Or.inl ⟨by rfl,fun w hSw => by obtain ⟨⟨s0,s1,s2⟩,⟨s3,s4,s5⟩,s6,s7,s8⟩ := hSw; go_simp⟩) (by assumption) ?_
  try simp only [Act.put,n1,n2,n3,n4,n5,n6]
  refine wpAnyH_take (i := 31) (v := .bool false) rfl (by kernel_rfl) (by kernel_rfl) (by kernel_rfl) (fun _ _ _ h => h) (Or.inl ⟨by rfl,fun w hSw => by obtain ⟨⟨s0,s1,s2⟩,⟨s3,s4,s5⟩,s6,s7,s8⟩ := hSw; go_simp⟩) (by assumption) ?_
  try simp only [Act.put,n1,n2,n3,n4,n5,n6]
  refine wpAnyH_take (i := 32) (v := .bool false) rfl (by kernel_rfl) (by kernel_rfl) (by kernel_rfl) (fun _ _ _ h => h) (Or.inl ⟨by rfl,fun w hSw => by obtain ⟨⟨s0,s1,s2⟩,⟨s3,s4,s5⟩,s6,s7,s8⟩ := hSw; go_simp⟩) (by assumption) ?_
  try simp only [Act.put,n1,n2,n3,n4,n5,n6]
  refine wpAnyH_ready (rs := [33]) (by kernel_rfl) (by simp) ?_
  refine AllReadyH.cons rfl (fun K hK => ?_) AllReadyH.nil
  go_simp
  go_at_call 22
  refine (num_l _ _).mono ?_
  rintro e w23 ⟨rfl,hb⟩
  have HB23 := Lib.hid (on_below HB22.out hb)
  have HS23 := Lib.hid (HS22.out.keep hb)
  clear hb
  clear HB22 HS22
  refine hK.out _ _ HS23.out (fun hHeld2 => ?_)
  try simp only [Act.put,n1,n2,n3,n4,n5,n6]
  clear hK hHeld
  have hHeld := hHeld2
  clear hHeld2
  refine wpAnyH_ready (rs := [34]) (by kernel_rfl) (by simp) ?_
  refine AllReadyH.cons rfl (fun K hK => ?_) AllReadyH.nil
  go_simp
  go_at_call 23
  refine (at_l _ _).mono ?_
  rintro e w24 ⟨rfl,hb⟩
  have HB24 := Lib.hid (on_below HB23.out hb)
  have HS24 := Lib.hid (HS23.out.keep hb)
  clear hb
  clear HB23 HS23
  refine hK.out _ _ HS24.out (fun hHeld2 => ?_)
  try simp only [Act.put,n1,n2,n3,n4,n5,n6]
  clear hK hHeld
  have hHeld := hHeld2
  clear hHeld2
  refine wpAnyH_ready (rs := [35]) (by kernel_rfl) (by simp) ?_
  refine AllReadyH.cons rfl (fun K hK => ?_) AllReadyH.nil
  go_simp
  go_at_call 24
  refine (un_l _ _).mono ?_
  rintro e w25 ⟨rfl,hb⟩
  have HB25 := Lib.hid (on_below HB24.out hb)
  have HS25 := Lib.hid (HS24.out.keep hb)
  clear hb
  clear HB24 HS24
  refine hK.out _ _ HS25.out (fun hHeld2 => ?_)
  try simp only [Act.put,n1,n2,n3,n4,n5,n6]
  clear hK hHeld
  have hHeld := hHeld2
  clear hHeld2
  refine wpAnyH_ready (rs := [36]) (by kernel_rfl) (by simp) ?_
  refine AllReadyH.cons rfl (fun K hK => ?_) AllReadyH.nil
  go_simp
  go_at_call 24
  refine (un_l _ _).mono ?_
  rintro e w26 ⟨rfl,hb⟩
  have HB26 := Lib.hid (on_below HB25.out hb)
  have HS26 := Lib.hid (HS25.out.keep hb)
  clear hb
  clear HB25 HS25
  refine hK.out _ _ HS26.out (fun hHeld2 => ?_)
  try simp only [Act.put,n1,n2,n3,n4,n5,n6]
  clear hK hHeld
  have hHeld := hHeld2
  clear hHeld2
  refine wpAnyH_ready (rs := [37]) (by kernel_rfl) (by simp) ?_
  refine AllReadyH.cons rfl (fun K hK => ?_) AllReadyH.nil
  go_simp
  have hb := alloc_below w26 (.cells #[.int .i64 1,.int .i64 1,.string ⟨#[]⟩,.int .i64 3,.int .i64 0,.string ⟨#[116]⟩,.int .i64 4,.int .i64 15,.string ⟨#[]⟩,.int .i64 4,.int .i64 16,.string ⟨#[]⟩] 45)
  have HB27 := Lib.hid (on_below HB26.out hb)
  have HS27 := Lib.hid (HS26.out.keep hb)
  have HQ27 := Lib.hid (show TmAt (w26.alloc (.cells #[.int .i64 1,.int .i64 1,.string ⟨#[]⟩,.int .i64 3,.int .i64 0,.string ⟨#[116]⟩,.int .i64 4,.int .i64 15,.string ⟨#[]⟩,.int .i64 4,.int .i64 16,.string ⟨#[]⟩] 45)) w26.heap.size pk3 from World.alloc_heap_new _ _)
  clear hb
  generalize (w26.alloc _ : World) = w27 at hK HB27 HS27 HQ27 ⊢
  generalize w26.heap.size = g27 at hK HQ27 ⊢
  refine hK.out _ _ HS27.out (fun hHeld2 => ?_)
  try simp only [Act.put,n1,n2,n3,n4,n5,n6]
  clear hK hHeld
  have hHeld := hHeld2
  clear hHeld2
  refine wpAnyH_ready (rs := [38]) (by kernel_rfl) (by simp) ?_
  refine AllReadyH.cons rfl (fun K hK => ?_) AllReadyH.nil
  go_simp
  go_at_call 20
  refine (text_lit pk3_small pk3_is HQ27.out (HE.out.all HB27.out) rfl).mono ?_
  rintro e w28 ⟨rfl,hb⟩
  have HB28 := Lib.hid (on_below HB27.out hb)
  have HS28 := Lib.hid (HS27.out.keep hb)
  clear hb
  clear HB27 HS27
  refine hK.out _ _ HS28.out (fun hHeld2 => ?_)
  try simp only [Act.put,n1,n2,n3,n4,n5,n6]
  clear hK hHeld
  have hHeld := hHeld2
  clear hHeld2
  refine wpAnyH_take (i := 39) (v := .bool false) rfl (by kernel_rfl) (by kernel_rfl) (by kernel_rfl) (fun _ _ _ h => h) (Or.inl ⟨by rfl,fun w hSw => by obtain ⟨⟨s0,s1,s2⟩,⟨s3,s4,s5⟩,s6,s7,s8⟩ := hSw; go_simp⟩) (by assumption) ?_
  try simp only [Act.put,n1,n2,n3,n4,n5,n6]
  refine wpAnyH_take (i := 40) (v := .bool false) rfl (by kernel_rfl) (by kernel_rfl) (by kernel_rfl) (fun _ _ _ h => h) (Or.inl ⟨by rfl,fun w hSw => by obtain ⟨⟨s0,s1,s2⟩,⟨s3,s4,s5⟩,s6,s7,s8⟩ := hSw; go_simp⟩) (by assumption) ?_
  try simp only [Act.put,n1,n2,n3,n4,n5,n6]
  refine wpAnyH_take (i := 41) (v := .bool false) rfl (by kernel_rfl) (by kernel_rfl) (by kernel_rfl) (fun _ _ _ h => h) (Or.inl ⟨by rfl,fun w hSw => by obtain ⟨⟨s0,s1,s2⟩,⟨s3,s4,s5⟩,s6,s7,s8⟩ := hSw; go_simp⟩) (by assumption) ?_
  try simp only [Act.put,n1,n2,n3,n4,n5,n6]
  refine wpAnyH_take (i := 42) (v := .agg #[.int .i64 2,.int .i64 0,.string ⟨#[97]⟩]) rfl (by kernel_rfl) (by kernel_rfl) (by kernel_rfl) (fun _ _ _ h => h) (Or.inl ⟨by rfl,fun w hSw => by obtain ⟨⟨s0,s1,s2⟩,⟨s3,s4,s5⟩,s6,s7,s8⟩ := hSw; go_simp⟩) (by assumption) ?_
  try simp only [Act.put,n1,n2,n3,n4,n5,n6]
  refine wpAnyH_take (i := 43) (v := .agg #[.int .i64 2,.int .i64 0,.string ⟨#[98]⟩]) rfl (by kernel_rfl) (by kernel_rfl) (by kernel_rfl) (fun _ _ _ h => h) (Or.inl ⟨by rfl,fun w hSw => by obtain ⟨⟨s0,s1,s2⟩,⟨s3,s4,s5⟩,s6,s7,s8⟩ := hSw; go_simp⟩) (by assumption) ?_
  try simp only [Act.put,n1,n2,n3,n4,n5,n6]
  refine wpAnyH_ready (rs := [44]) (by kernel_rfl) (by simp) ?_
  refine AllReadyH.cons rfl (fun K hK => ?_) AllReadyH.nil
  go_simp
  go_at_call 21
  refine (bin_l _ _).mono ?_
  rintro e w29 ⟨rfl,hb⟩
  have HB29 := Lib.hid (on_below HB28.out hb)
  have HS29 := Lib.hid (HS28.out.keep hb)
  clear hb
  clear HB28 HS28
  refine hK.out _ _ HS29.out (fun hHeld2 => ?_)
  try simp only [Act.put,n1,n2,n3,n4,n5,n6]
  clear hK hHeld
  have hHeld := hHeld2
  clear hHeld2
  refine wpAnyH_ready (rs := [45]) (by kernel_rfl) (by simp) ?_
  refine AllReadyH.cons rfl (fun K hK => ?_) AllReadyH.nil
  go_simp
  go_at_call 24
  refine (un_l _ _).mono ?_
  rintro e w30 ⟨rfl,hb⟩
  have HB30 := Lib.hid (on_below HB29.out hb)
  have HS30 := Lib.hid (HS29.out.keep hb)
  clear hb
  clear HB29 HS29
  refine hK.out _ _ HS30.out (fun hHeld2 => ?_)
  try simp only [Act.put,n1,n2,n3,n4,n5,n6]
  clear hK hHeld
  have hHeld := hHeld2
  clear hHeld2
  refine wpAnyH_ready (rs := [46]) (by kernel_rfl) (by simp) ?_
  refine AllReadyH.cons rfl (fun K hK => ?_) AllReadyH.nil
  go_simp
  have hb := alloc_below w30 (.cells #[.int .i64 2,.int .i64 0,.string ⟨#[97]⟩,.int .i64 2,.int .i64 0,.string ⟨#[98]⟩,.int .i64 5,.int .i64 1,.string ⟨#[]⟩,.int .i64 4,.int .i64 15,.string ⟨#[]⟩] 45)
  have HB31 := Lib.hid (on_below HB30.out hb)
  have HS31 := Lib.hid (HS30.out.keep hb)
  have HQ31 := Lib.hid (show TmAt (w30.alloc (.cells #[.int .i64 2,.int .i64 0,.string ⟨#[97]⟩,.int .i64 2,.int .i64 0,.string ⟨#[98]⟩,.int .i64 5,.int .i64 1,.string ⟨#[]⟩,.int .i64 4,.int .i64 15,.string ⟨#[]⟩] 45)) w30.heap.size pk4 from World.alloc_heap_new _ _)
  clear hb
  generalize (w30.alloc _ : World) = w31 at hK HB31 HS31 HQ31 ⊢
  generalize w30.heap.size = g31 at hK HQ31 ⊢
  refine hK.out _ _ HS31.out (fun hHeld2 => ?_)
  try simp only [Act.put,n1,n2,n3,n4,n5,n6]
  clear hK hHeld
  have hHeld := hHeld2
  clear hHeld2
  refine wpAnyH_ready (rs := [47]) (by kernel_rfl) (by simp) ?_
  refine AllReadyH.cons rfl (fun K hK => ?_) AllReadyH.nil
  go_simp
  go_at_call 20
  refine (text_lit pk4_small pk4_is HQ31.out (HE.out.all HB31.out) rfl).mono ?_
  rintro e w32 ⟨rfl,hb⟩
  have HB32 := Lib.hid (on_below HB31.out hb)
  have HS32 := Lib.hid (HS31.out.keep hb)
  clear hb
  clear HB31 HS31
  refine hK.out _ _ HS32.out (fun hHeld2 => ?_)
  try simp only [Act.put,n1,n2,n3,n4,n5,n6]
  clear hK hHeld
  have hHeld := hHeld2
  clear hHeld2
  refine wpAnyH_take (i := 48) (v := .bool false) rfl (by kernel_rfl) (by kernel_rfl) (by kernel_rfl) (fun _ _ _ h => h) (Or.inl ⟨by rfl,fun w hSw => by obtain ⟨⟨s0,s1,s2⟩,⟨s3,s4,s5⟩,s6,s7,s8⟩ := hSw; go_simp⟩) (by assumption) ?_
  try simp only [Act.put,n1,n2,n3,n4,n5,n6]
  refine wpAnyH_take (i := 49) (v := .bool false) rfl (by kernel_rfl) (by kernel_rfl) (by kernel_rfl) (fun _ _ _ h => h) (Or.inl ⟨by rfl,fun w hSw => by obtain ⟨⟨s0,s1,s2⟩,⟨s3,s4,s5⟩,s6,s7,s8⟩ := hSw; go_simp⟩) (by assumption) ?_
  try simp only [Act.put,n1,n2,n3,n4,n5,n6]
  refine wpAnyH_take (i := 50) (v := .bool false) rfl (by kernel_rfl) (by kernel_rfl) (by kernel_rfl) (fun _ _ _ h => h) (Or.inl ⟨by rfl,fun w hSw => by obtain ⟨⟨s0,s1,s2⟩,⟨s3,s4,s5⟩,s6,s7,s8⟩ := hSw; go_simp⟩) (by assumption) ?_
  try simp only [Act.put,n1,n2,n3,n4,n5,n6]
  refine wpAnyH_take (i := 51) (v := .agg #[.int .i64 2,.int .i64 0,.string ⟨#[97]⟩]) rfl (by kernel_rfl) (by kernel_rfl) (by kernel_rfl) (fun _ _ _ h => h) (Or.inl ⟨by rfl,fun w hSw => by obtain ⟨⟨s0,s1,s2⟩,⟨s3,s4,s5⟩,s6,s7,s8⟩ := hSw; go_simp⟩) (by assumption) ?_
  try simp only [Act.put,n1,n2,n3,n4,n5,n6]
  refine wpAnyH_take (i := 53) (v := .agg #[.int .i64 2,.int .i64 0,.string ⟨#[98]⟩]) rfl (by kernel_rfl) (by kernel_rfl) (by kernel_rfl) (fun _ _ _ h => h) (Or.inl ⟨by rfl,fun w hSw => by obtain ⟨⟨s0,s1,s2⟩,⟨s3,s4,s5⟩,s6,s7,s8⟩ := hSw; go_simp⟩) (by assumption) ?_
  try simp only [Act.put,n1,n2,n3,n4,n5,n6]
  refine wpAnyH_ready (rs := [52]) (by kernel_rfl) (by simp) ?_
  refine AllReadyH.cons rfl (fun K hK => ?_) AllReadyH.nil
  go_simp
  go_at_call 24
  refine (un_l _ _).mono ?_
  rintro e w33 ⟨rfl,hb⟩
  have HB33 := Lib.hid (on_below HB32.out hb)
  have HS33 := Lib.hid (HS32.out.keep hb)
  clear hb
  clear HB32 HS32
  refine hK.out _ _ HS33.out (fun hHeld2 => ?_)
  try simp only [Act.put,n1,n2,n3,n4,n5,n6]
  clear hK hHeld
  have hHeld := hHeld2
  clear hHeld2
  refine wpAnyH_ready (rs := [54]) (by kernel_rfl) (by simp) ?_
  refine AllReadyH.cons rfl (fun K hK => ?_) AllReadyH.nil
  go_simp
  go_at_call 21
  refine (bin_l _ _).mono ?_
  rintro e w34 ⟨rfl,hb⟩
  have HB34 := Lib.hid (on_below HB33.out hb)
  have HS34 := Lib.hid (HS33.out.keep hb)
  clear hb
  clear HB33 HS33
  refine hK.out _ _ HS34.out (fun hHeld2 => ?_)
  try simp only [Act.put,n1,n2,n3,n4,n5,n6]
  clear hK hHeld
  have hHeld := hHeld2
  clear hHeld2
  refine wpAnyH_ready (rs := [55]) (by kernel_rfl) (by simp) ?_
  refine AllReadyH.cons rfl (fun K hK => ?_) AllReadyH.nil
  go_simp
  have hb := alloc_below w34 (.cells #[.int .i64 2,.int .i64 0,.string ⟨#[97]⟩,.int .i64 4,.int .i64 15,.string ⟨#[]⟩,.int .i64 2,.int .i64 0,.string ⟨#[98]⟩,.int .i64 5,.int .i64 9,.string ⟨#[]⟩] 45)
  have HB35 := Lib.hid (on_below HB34.out hb)
  have HS35 := Lib.hid (HS34.out.keep hb)
  have HQ35 := Lib.hid (show TmAt (w34.alloc (.cells #[.int .i64 2,.int .i64 0,.string ⟨#[97]⟩,.int .i64 4,.int .i64 15,.string ⟨#[]⟩,.int .i64 2,.int .i64 0,.string ⟨#[98]⟩,.int .i64 5,.int .i64 9,.string ⟨#[]⟩] 45)) w34.heap.size pk5 from World.alloc_heap_new _ _)
  clear hb
  generalize (w34.alloc _ : World) = w35 at hK HB35 HS35 HQ35 ⊢
  generalize w34.heap.size = g35 at hK HQ35 ⊢
  refine hK.out _ _ HS35.out (fun hHeld2 => ?_)
  try simp only [Act.put,n1,n2,n3,n4,n5,n6]
  clear hK hHeld
  have hHeld := hHeld2
  clear hHeld2
  refine wpAnyH_ready (rs := [56]) (by kernel_rfl) (by simp) ?_
  refine AllReadyH.cons rfl (fun K hK => ?_) AllReadyH.nil
  go_simp
  go_at_call 20
  refine (text_lit pk5_small pk5_is HQ35.out (HE.out.all HB35.out) rfl).mono ?_
  rintro e w36 ⟨rfl,hb⟩
  have HB36 := Lib.hid (on_below HB35.out hb)
  have HS36 := Lib.hid (HS35.out.keep hb)
  clear hb
  clear HB35 HS35
  refine hK.out _ _ HS36.out (fun hHeld2 => ?_)
  try simp only [Act.put,n1,n2,n3,n4,n5,n6]
  clear hK hHeld
  have hHeld := hHeld2
  clear hHeld2
  refine wpAnyH_take (i := 57) (v := .bool false) rfl (by kernel_rfl) (by kernel_rfl) (by kernel_rfl) (fun _ _ _ h => h) (Or.inl ⟨by rfl,fun w hSw => by obtain ⟨⟨s0,s1,s2⟩,⟨s3,s4,s5⟩,s6,s7,s8⟩ := hSw; go_simp⟩) (by assumption) ?_
  try simp only [Act.put,n1,n2,n3,n4,n5,n6]
  refine wpAnyH_take (i := 58) (v := .bool false) rfl (by kernel_rfl) (by kernel_rfl) (by kernel_rfl) (fun _ _ _ h => h) (Or.inl ⟨by rfl,fun w hSw => by obtain ⟨⟨s0,s1,s2⟩,⟨s3,s4,s5⟩,s6,s7,s8⟩ := hSw; go_simp⟩) (by assumption) ?_
  try simp only [Act.put,n1,n2,n3,n4,n5,n6]
  refine wpAnyH_done (by kernel_rfl) ?_ _
  go_upto_region 6 with fail
  have HSq := Lib.hid (show KnS b1 b2 b3 w36.drew from HS36.out)
  have HBq := Lib.hid (show Below W.heap.size W w36.drew from HB36.out.drew)
  clear HB36 HS36
  refine wp_region_held_drew (S := KnS b1 b2 b3) hmx HSq.out (fun hHeld => ?_)
  generalize (w36.drew : World) = wD at *
  refine wpAnyH_take (i := 0) (v := .agg #[.int .i64 2,.int .i64 0,.string ⟨#[97]⟩]) rfl (by kernel_rfl) (by kernel_rfl) (by kernel_rfl) (fun _ _ _ h => h) (Or.inl ⟨by rfl,fun w hSw => by obtain ⟨⟨s0,s1,s2⟩,⟨s3,s4,s5⟩,s6,s7,s8⟩ := hSw; go_simp⟩) (by assumption) ?_
  try simp only [Act.put,n1,n2,n3,n4,n5,n6]
  refine wpAnyH_take (i := 1) (v := .agg #[.int .i64 2,.int .i64 0,.string ⟨#[98]⟩]) rfl (by kernel_rfl) (by kernel_rfl) (by kernel_rfl) (fun _ _ _ h => h) (Or.inl ⟨by rfl,fun w hSw => by obtain ⟨⟨s0,s1,s2⟩,⟨s3,s4,s5⟩,s6,s7,s8⟩ := hSw; go_simp⟩) (by assumption) ?_
  try simp only [Act.put,n1,n2,n3,n4,n5,n6]
  refine wpAnyH_ready (rs := [2]) (by kernel_rfl) (by simp) ?_
  refine AllReadyH.cons rfl (fun K hK => ?_) AllReadyH.nil
  go_simp
  have hb := alloc_below wD (.cells #[.int .i64 2,.int .i64 0,.string ⟨#[97]⟩,.int .i64 2,.int .i64 0,.string ⟨#[98]⟩] 45)
  have HB37 := Lib.hid (on_below HBq.out hb)
  have HS37 := Lib.hid (HSq.out.keep hb)
  have HQ37 := Lib.hid (show TmAt (wD.alloc (.cells #[.int .i64 2,.int .i64 0,.string ⟨#[97]⟩,.int .i64 2,.int .i64 0,.string ⟨#[98]⟩] 45)) wD.heap.size pk6 from World.alloc_heap_new _ _)
  clear hb
  generalize (wD.alloc _ : World) = w37 at hK HB37 HS37 HQ37 ⊢
  generalize wD.heap.size = g37 at hK HQ37 ⊢
  refine hK.out _ _ HS37.out (fun hHeld2 => ?_)
  try simp only [Act.put,n1,n2,n3,n4,n5,n6]
  clear hK hHeld
  have hHeld := hHeld2
  clear hHeld2
  refine wpAnyH_ready (rs := [3]) (by kernel_rfl) (by simp) ?_
  refine AllReadyH.cons rfl (fun K hK => ?_) AllReadyH.nil
  go_simp
  go_at_call 20
  refine (text_lit pk6_small pk6_is HQ37.out (HE.out.all HB37.out) rfl).mono ?_
  rintro e w38 ⟨rfl,hb⟩
  have HB38 := Lib.hid (on_below HB37.out hb)
  have HS38 := Lib.hid (HS37.out.keep hb)
  clear hb
  clear HB37 HS37
  refine hK.out _ _ HS38.out (fun hHeld2 => ?_)
  try simp only [Act.put,n1,n2,n3,n4,n5,n6]
  clear hK hHeld
  have hHeld := hHeld2
  clear hHeld2
  refine wpAnyH_take (i := 4) (v := .bool false) rfl (by kernel_rfl) (by kernel_rfl) (by kernel_rfl) (fun _ _ _ h => h) (Or.inl ⟨by rfl,fun w hSw => by obtain ⟨⟨s0,s1,s2⟩,⟨s3,s4,s5⟩,s6,s7,s8⟩ := hSw; go_simp⟩) (by assumption) ?_
  try simp only [Act.put,n1,n2,n3,n4,n5,n6]
  refine wpAnyH_take (i := 5) (v := .bool false) rfl (by kernel_rfl) (by kernel_rfl) (by kernel_rfl) (fun _ _ _ h => h) (Or.inl ⟨by rfl,fun w hSw => by obtain ⟨⟨s0,s1,s2⟩,⟨s3,s4,s5⟩,s6,s7,s8⟩ := hSw; go_simp⟩) (by assumption) ?_
  try simp only [Act.put,n1,n2,n3,n4,n5,n6]
  refine wpAnyH_ready (rs := [6]) (by kernel_rfl) (by simp) ?_
  refine AllReadyH.cons rfl (fun K hK => ?_) AllReadyH.nil
  go_simp
  go_at_call 21
  refine (bin_l _ _).mono ?_
  rintro e w39 ⟨rfl,hb⟩
  have HB39 := Lib.hid (on_below HB38.out hb)
  have HS39 := Lib.hid (HS38.out.keep hb)
  clear hb
  clear HB38 HS38
  refine hK.out _ _ HS39.out (fun hHeld2 => ?_)
  try simp only [Act.put,n1,n2,n3,n4,n5,n6]
  clear hK hHeld
  have hHeld := hHeld2
  clear hHeld2
  refine wpAnyH_ready (rs := [7]) (by kernel_rfl) (by simp) ?_
  refine AllReadyH.cons rfl (fun K hK => ?_) AllReadyH.nil
  go_simp
  have hb := alloc_below w39 (.cells #[.int .i64 5,.int .i64 1,.string ⟨#[]⟩] 45)
  have HB40 := Lib.hid (on_below HB39.out hb)
  have HS40 := Lib.hid (HS39.out.keep hb)
  have HQ40 := Lib.hid (show TmAt (w39.alloc (.cells #[.int .i64 5,.int .i64 1,.string ⟨#[]⟩] 45)) w39.heap.size pk7 from World.alloc_heap_new _ _)
  clear hb
  generalize (w39.alloc _ : World) = w40 at hK HB40 HS40 HQ40 ⊢
  generalize w39.heap.size = g40 at hK HQ40 ⊢
  refine hK.out _ _ HS40.out (fun hHeld2 => ?_)
  try simp only [Act.put,n1,n2,n3,n4,n5,n6]
  clear hK hHeld
  have hHeld := hHeld2
  clear hHeld2
  refine wpAnyH_ready (rs := [8]) (by kernel_rfl) (by simp) ?_
  refine AllReadyH.cons rfl (fun K hK => ?_) AllReadyH.nil
  go_simp
  go_at_call 20
  refine (text_lit pk7_small pk7_is HQ40.out (HE.out.all HB40.out) rfl).mono ?_
  rintro e w41 ⟨rfl,hb⟩
  have HB41 := Lib.hid (on_below HB40.out hb)
  have HS41 := Lib.hid (HS40.out.keep hb)
  clear hb
  clear HB40 HS40
  refine hK.out _ _ HS41.out (fun hHeld2 => ?_)
  try simp only [Act.put,n1,n2,n3,n4,n5,n6]
  clear hK hHeld
  have hHeld := hHeld2
  clear hHeld2
  refine wpAnyH_take (i := 9) (v := .bool false) rfl (by kernel_rfl) (by kernel_rfl) (by kernel_rfl) (fun _ _ _ h => h) (Or.inl ⟨by rfl,fun w hSw => by obtain ⟨⟨s0,s1,s2⟩,⟨s3,s4,s5⟩,s6,s7,s8⟩ := hSw; go_simp⟩) (by assumption) ?_
  try simp only [Act.put,n1,n2,n3,n4,n5,n6]
  refine wpAnyH_take (i := 10) (v := .bool false) rfl (by kernel_rfl) (by kernel_rfl) (by kernel_rfl) (fun _ _ _ h => h) (Or.inl ⟨by rfl,fun w hSw => by obtain ⟨⟨s0,s1,s2⟩,⟨s3,s4,s5⟩,s6,s7,s8⟩ := hSw; go_simp⟩) (by assumption) ?_
  try simp only [Act.put,n1,n2,n3,n4,n5,n6]
  refine wpAnyH_take (i := 11) (v := .bool false) rfl (by kernel_rfl) (by kernel_rfl) (by kernel_rfl) (fun _ _ _ h => h) (Or.inl ⟨by rfl,fun w hSw => by obtain ⟨⟨s0,s1,s2⟩,⟨s3,s4,s5⟩,s6,s7,s8⟩ := hSw; go_simp⟩) (by assumption) ?_
  try simp only [Act.put,n1,n2,n3,n4,n5,n6]
  refine wpAnyH_ready (rs := [12]) (by kernel_rfl) (by simp) ?_
  refine AllReadyH.cons rfl (fun K hK => ?_) AllReadyH.nil
  go_simp
  go_at_call 20
  refine (text_none (HE.out.all HB41.out)).mono ?_
  rintro e w42 ⟨rfl,hb⟩
  have HB42 := Lib.hid (on_below HB41.out hb)
  have HS42 := Lib.hid (HS41.out.keep hb)
  clear hb
  clear HB41 HS41
  refine hK.out _ _ HS42.out (fun hHeld2 => ?_)
  try simp only [Act.put,n1,n2,n3,n4,n5,n6]
  clear hK hHeld
  have hHeld := hHeld2
  clear hHeld2
  refine wpAnyH_take (i := 13) (v := .bool false) rfl (by kernel_rfl) (by kernel_rfl) (by kernel_rfl) (fun _ _ _ h => h) (Or.inl ⟨by rfl,fun w hSw => by obtain ⟨⟨s0,s1,s2⟩,⟨s3,s4,s5⟩,s6,s7,s8⟩ := hSw; go_simp⟩) (by assumption) ?_
  try simp only [Act.put,n1,n2,n3,n4,n5,n6]
  refine wpAnyH_take (i := 14) (v := .bool false) rfl (by kernel_rfl) (by kernel_rfl) (by kernel_rfl) (fun _ _ _ h => h) (Or.inl ⟨by rfl,fun w hSw => by obtain ⟨⟨s0,s1,s2⟩,⟨s3,s4,s5⟩,s6,s7,s8⟩ := hSw; go_simp⟩) (by assumption) ?_
  try simp only [Act.put,n1,n2,n3,n4,n5,n6]
  refine wpAnyH_take (i := 15) (v := .bool false) rfl (by kernel_rfl) (by kernel_rfl) (by kernel_rfl) (fun _ _ _ h => h) (Or.inl ⟨by rfl,fun w hSw => by obtain ⟨⟨s0,s1,s2⟩,⟨s3,s4,s5⟩,s6,s7,s8⟩ := hSw; go_simp⟩) (by assumption) ?_
  try simp only [Act.put,n1,n2,n3,n4,n5,n6]
  refine wpAnyH_ready (rs := [16]) (by kernel_rfl) (by simp) ?_
  refine AllReadyH.cons rfl (fun K hK => ?_) AllReadyH.nil
  go_simp
  go_at_call 19
  refine (name_l _ _).mono ?_
  rintro e w43 ⟨rfl,hb⟩
  have HB43 := Lib.hid (on_below HB42.out hb)
  have HS43 := Lib.hid (HS42.out.keep hb)
  clear hb
  clear HB42 HS42
  refine hK.out _ _ HS43.out (fun hHeld2 => ?_)
  try simp only [Act.put,n1,n2,n3,n4,n5,n6]
  clear hK hHeld
  have hHeld := hHeld2
  clear hHeld2
  refine wpAnyH_ready (rs := [17]) (by kernel_rfl) (by simp) ?_
  refine AllReadyH.cons rfl (fun K hK => ?_) AllReadyH.nil
  go_simp
  have hb := alloc_below w43 (.cells #[.int .i64 2,.int .i64 0,.string ⟨#[105,102]⟩] 45)
  have HB44 := Lib.hid (on_below HB43.out hb)
  have HS44 := Lib.hid (HS43.out.keep hb)
  have HQ44 := Lib.hid (show TmAt (w43.alloc (.cells #[.int .i64 2,.int .i64 0,.string ⟨#[105,102]⟩] 45)) w43.heap.size pk9 from World.alloc_heap_new _ _)
  clear hb
  generalize (w43.alloc _ : World) = w44 at hK HB44 HS44 HQ44 ⊢
  generalize w43.heap.size = g44 at hK HQ44 ⊢
  refine hK.out _ _ HS44.out (fun hHeld2 => ?_)
  try simp only [Act.put,n1,n2,n3,n4,n5,n6]
  clear hK hHeld
  have hHeld := hHeld2
  clear hHeld2
  refine wpAnyH_ready (rs := [18]) (by kernel_rfl) (by simp) ?_
  refine AllReadyH.cons rfl (fun K hK => ?_) AllReadyH.nil
  go_simp
  go_at_call 20
  refine (text_lit pk9_small pk9_is HQ44.out (HE.out.all HB44.out) rfl).mono ?_
  rintro e w45 ⟨rfl,hb⟩
  have HB45 := Lib.hid (on_below HB44.out hb)
  have HS45 := Lib.hid (HS44.out.keep hb)
  clear hb
  clear HB44 HS44
  refine hK.out _ _ HS45.out (fun hHeld2 => ?_)
  try simp only [Act.put,n1,n2,n3,n4,n5,n6]
  clear hK hHeld
  have hHeld := hHeld2
  clear hHeld2
  refine wpAnyH_take (i := 19) (v := .bool false) rfl (by kernel_rfl) (by kernel_rfl) (by kernel_rfl) (fun _ _ _ h => h) (Or.inl ⟨by rfl,fun w hSw => by obtain ⟨⟨s0,s1,s2⟩,⟨s3,s4,s5⟩,s6,s7,s8⟩ := hSw; go_simp⟩) (by assumption) ?_
  try simp only [Act.put,n1,n2,n3,n4,n5,n6]
  refine wpAnyH_take (i := 20) (v := .bool false) rfl (by kernel_rfl) (by kernel_rfl) (by kernel_rfl) (fun _ _ _ h => h) (Or.inl ⟨by rfl,fun w hSw => by obtain ⟨⟨s0,s1,s2⟩,⟨s3,s4,s5⟩,s6,s7,s8⟩ := hSw; go_simp⟩) (by assumption) ?_
  try simp only [Act.put,n1,n2,n3,n4,n5,n6]
  refine wpAnyH_take (i := 21) (v := .bool false) rfl (by kernel_rfl) (by kernel_rfl) (by kernel_rfl) (fun _ _ _ h => h) (Or.inl ⟨by rfl,fun w hSw => by obtain ⟨⟨s0,s1,s2⟩,⟨s3,s4,s5⟩,s6,s7,s8⟩ := hSw; go_simp⟩) (by assumption) ?_
  try simp only [Act.put,n1,n2,n3,n4,n5,n6]
  refine wpAnyH_ready (rs := [22]) (by kernel_rfl) (by simp) ?_
  refine AllReadyH.cons rfl (fun K hK => ?_) AllReadyH.nil
  go_simp
  go_at_call 22
  refine (num_l _ _).mono ?_
  rintro e w46 ⟨rfl,hb⟩
  have HB46 := Lib.hid (on_below HB45.out hb)
  have HS46 := Lib.hid (HS45.out.keep hb)
  clear hb
  clear HB45 HS45
  refine hK.out _ _ HS46.out (fun hHeld2 => ?_)
  try simp only [Act.put,n1,n2,n3,n4,n5,n6]
  clear hK hHeld
  have hHeld := hHeld2
  clear hHeld2
  refine wpAnyH_ready (rs := [23]) (by kernel_rfl) (by simp) ?_
  refine AllReadyH.cons rfl (fun K hK => ?_) AllReadyH.nil
  go_simp
  have hb := alloc_below w46 (.cells #[.int .i64 1,.int .i64 (-1),.string ⟨#[]⟩] 45)
  have HB47 := Lib.hid (on_below HB46.out hb)
  have HS47 := Lib.hid (HS46.out.keep hb)
  have HQ47 := Lib.hid (show TmAt (w46.alloc (.cells #[.int .i64 1,.int .i64 (-1),.string ⟨#[]⟩] 45)) w46.heap.size pk10 from World.alloc_heap_new _ _)
  clear hb
  generalize (w46.alloc _ : World) = w47 at hK HB47 HS47 HQ47 ⊢
  generalize w46.heap.size = g47 at hK HQ47 ⊢
  refine hK.out _ _ HS47.out (fun hHeld2 => ?_)
  try simp only [Act.put,n1,n2,n3,n4,n5,n6]
  clear hK hHeld
  have hHeld := hHeld2
  clear hHeld2
  refine wpAnyH_ready (rs := [24]) (by kernel_rfl) (by simp) ?_
  refine AllReadyH.cons rfl (fun K hK => ?_) AllReadyH.nil
  go_simp
  go_at_call 20
  refine (text_lit pk10_small pk10_is HQ47.out (HE.out.all HB47.out) rfl).mono ?_
  rintro e w48 ⟨rfl,hb⟩
  have HB48 := Lib.hid (on_below HB47.out hb)
  have HS48 := Lib.hid (HS47.out.keep hb)
  clear hb
  clear HB47 HS47
  refine hK.out _ _ HS48.out (fun hHeld2 => ?_)
  try simp only [Act.put,n1,n2,n3,n4,n5,n6]
  clear hK hHeld
  have hHeld := hHeld2
  clear hHeld2
  refine wpAnyH_take (i := 25) (v := .bool false) rfl (by kernel_rfl) (by kernel_rfl) (by kernel_rfl) (fun _ _ _ h => h) (Or.inl ⟨by rfl,fun w hSw => by obtain ⟨⟨s0,s1,s2⟩,⟨s3,s4,s5⟩,s6,s7,s8⟩ := hSw; go_simp⟩) (by assumption) ?_
  try simp only [Act.put,n1,n2,n3,n4,n5,n6]
  refine wpAnyH_take (i := 26) (v := .bool false) rfl (by kernel_rfl) (by kernel_rfl) (by kernel_rfl) (fun _ _ _ h => h) (Or.inl ⟨by rfl,fun w hSw => by obtain ⟨⟨s0,s1,s2⟩,⟨s3,s4,s5⟩,s6,s7,s8⟩ := hSw; go_simp⟩) (by assumption) ?_
  try simp only [Act.put,n1,n2,n3,n4,n5,n6]
  refine wpAnyH_take (i := 27) (v := .bool false) rfl (by kernel_rfl) (by kernel_rfl) (by kernel_rfl) (fun _ _ _ h => h) (Or.inl ⟨by rfl,fun w hSw => by obtain ⟨⟨s0,s1,s2⟩,⟨s3,s4,s5⟩,s6,s7,s8⟩ := hSw; go_simp⟩) (by assumption) ?_
  try simp only [Act.put,n1,n2,n3,n4,n5,n6]
  refine wpAnyH_ready (rs := [28]) (by kernel_rfl) (by simp) ?_
  refine AllReadyH.cons rfl (fun K hK => ?_) AllReadyH.nil
  go_simp
  go_at_call 24
  refine (un_l _ _).mono ?_
  rintro e w49 ⟨rfl,hb⟩
  have HB49 := Lib.hid (on_below HB48.out hb)
  have HS49 := Lib.hid (HS48.out.keep hb)
  clear hb
  clear HB48 HS48
  refine hK.out _ _ HS49.out (fun hHeld2 => ?_)
  try simp only [Act.put,n1,n2,n3,n4,n5,n6]
  clear hK hHeld
  have hHeld := hHeld2
  clear hHeld2
  refine wpAnyH_ready (rs := [29]) (by kernel_rfl) (by simp) ?_
  refine AllReadyH.cons rfl (fun K hK => ?_) AllReadyH.nil
  go_simp
  have hb := alloc_below w49 (.cells #[.int .i64 4,.int .i64 1,.string ⟨#[]⟩] 45)
  have HB50 := Lib.hid (on_below HB49.out hb)
  have HS50 := Lib.hid (HS49.out.keep hb)
  have HQ50 := Lib.hid (show TmAt (w49.alloc (.cells #[.int .i64 4,.int .i64 1,.string ⟨#[]⟩] 45)) w49.heap.size pk11 from World.alloc_heap_new _ _)
  clear hb
  generalize (w49.alloc _ : World) = w50 at hK HB50 HS50 HQ50 ⊢
  generalize w49.heap.size = g50 at hK HQ50 ⊢
  refine hK.out _ _ HS50.out (fun hHeld2 => ?_)
  try simp only [Act.put,n1,n2,n3,n4,n5,n6]
  clear hK hHeld
  have hHeld := hHeld2
  clear hHeld2
  refine wpAnyH_ready (rs := [30]) (by kernel_rfl) (by simp) ?_
  refine AllReadyH.cons rfl (fun K hK => ?_) AllReadyH.nil
  go_simp
  go_at_call 20
  refine (text_lit pk11_small pk11_is HQ50.out (HE.out.all HB50.out) rfl).mono ?_
  rintro e w51 ⟨rfl,hb⟩
  have HB51 := Lib.hid (on_below HB50.out hb)
  have HS51 := Lib.hid (HS50.out.keep hb)
  clear hb
  clear HB50 HS50
  refine hK.out _ _ HS51.out (fun hHeld2 => ?_)
  try simp only [Act.put,n1,n2,n3,n4,n5,n6]
  clear hK hHeld
  have hHeld := hHeld2
  clear hHeld2
  refine wpAnyH_take (i := 31) (v := .bool false) rfl (by kernel_rfl) (by kernel_rfl) (by kernel_rfl) (fun _ _ _ h => h) (Or.inl ⟨by rfl,fun w hSw => by obtain ⟨⟨s0,s1,s2⟩,⟨s3,s4,s5⟩,s6,s7,s8⟩ := hSw; go_simp⟩) (by assumption) ?_
  try simp only [Act.put,n1,n2,n3,n4,n5,n6]
  refine wpAnyH_take (i := 32) (v := .bool false) rfl (by kernel_rfl) (by kernel_rfl) (by kernel_rfl) (fun _ _ _ h => h) (Or.inl ⟨by rfl,fun w hSw => by obtain ⟨⟨s0,s1,s2⟩,⟨s3,s4,s5⟩,s6,s7,s8⟩ := hSw; go_simp⟩) (by assumption) ?_
  try simp only [Act.put,n1,n2,n3,n4,n5,n6]
  refine wpAnyH_take (i := 33) (v := .bool false) rfl (by kernel_rfl) (by kernel_rfl) (by kernel_rfl) (fun _ _ _ h => h) (Or.inl ⟨by rfl,fun w hSw => by obtain ⟨⟨s0,s1,s2⟩,⟨s3,s4,s5⟩,s6,s7,s8⟩ := hSw; go_simp⟩) (by assumption) ?_
  try simp only [Act.put,n1,n2,n3,n4,n5,n6]
  refine wpAnyH_take (i := 34) (v := .agg #[.int .i64 2,.int .i64 0,.string ⟨#[97]⟩]) rfl (by kernel_rfl) (by kernel_rfl) (by kernel_rfl) (fun _ _ _ h => h) (Or.inl ⟨by rfl,fun w hSw => by obtain ⟨⟨s0,s1,s2⟩,⟨s3,s4,s5⟩,s6,s7,s8⟩ := hSw; go_simp⟩) (by assumption) ?_
  try simp only [Act.put,n1,n2,n3,n4,n5,n6]
  refine wpAnyH_take (i := 35) (v := .agg #[.int .i64 2,.int .i64 0,.string ⟨#[98]⟩]) rfl (by kernel_rfl) (by kernel_rfl) (by kernel_rfl) (fun _ _ _ h => h) (Or.inl ⟨by rfl,fun w hSw => by obtain ⟨⟨s0,s1,s2⟩,⟨s3,s4,s5⟩,s6,s7,s8⟩ := hSw; go_simp⟩) (by assumption) ?_
  try simp only [Act.put,n1,n2,n3,n4,n5,n6]
  refine wpAnyH_ready (rs := [36]) (by kernel_rfl) (by simp) ?_
  refine AllReadyH.cons rfl (fun K hK => ?_) AllReadyH.nil
  go_simp
  go_at_call 21
  refine (bin_l _ _).mono ?_
  rintro e w52 ⟨rfl,hb⟩
  have HB52 := Lib.hid (on_below HB51.out hb)
  have HS52 := Lib.hid (HS51.out.keep hb)
  clear hb
  clear HB51 HS51
  refine hK.out _ _ HS52.out (fun hHeld2 => ?_)
  try simp only [Act.put,n1,n2,n3,n4,n5,n6]
  clear hK hHeld
  have hHeld := hHeld2
  clear hHeld2
  refine wpAnyH_ready (rs := [37]) (by kernel_rfl) (by simp) ?_
  refine AllReadyH.cons rfl (fun K hK => ?_) AllReadyH.nil
  go_simp
  have hb := alloc_below w52 (.cells #[.int .i64 2,.int .i64 0,.string ⟨#[97]⟩,.int .i64 2,.int .i64 0,.string ⟨#[98]⟩,.int .i64 5,.int .i64 15,.string ⟨#[]⟩] 45)
  have HB53 := Lib.hid (on_below HB52.out hb)
  have HS53 := Lib.hid (HS52.out.keep hb)
  have HQ53 := Lib.hid (show TmAt (w52.alloc (.cells #[.int .i64 2,.int .i64 0,.string ⟨#[97]⟩,.int .i64 2,.int .i64 0,.string ⟨#[98]⟩,.int .i64 5,.int .i64 15,.string ⟨#[]⟩] 45)) w52.heap.size pk12 from World.alloc_heap_new _ _)
  clear hb
  generalize (w52.alloc _ : World) = w53 at hK HB53 HS53 HQ53 ⊢
  generalize w52.heap.size = g53 at hK HQ53 ⊢
  refine hK.out _ _ HS53.out (fun hHeld2 => ?_)
  try simp only [Act.put,n1,n2,n3,n4,n5,n6]
  clear hK hHeld
  have hHeld := hHeld2
  clear hHeld2
  refine wpAnyH_ready (rs := [38]) (by kernel_rfl) (by simp) ?_
  refine AllReadyH.cons rfl (fun K hK => ?_) AllReadyH.nil
  go_simp
  go_at_call 20
  refine (text_lit pk12_small pk12_is HQ53.out (HE.out.all HB53.out) rfl).mono ?_
  rintro e w54 ⟨rfl,hb⟩
  have HB54 := Lib.hid (on_below HB53.out hb)
  have HS54 := Lib.hid (HS53.out.keep hb)
  clear hb
  clear HB53 HS53
  refine hK.out _ _ HS54.out (fun hHeld2 => ?_)
  try simp only [Act.put,n1,n2,n3,n4,n5,n6]
  clear hK hHeld
  have hHeld := hHeld2
  clear hHeld2
  refine wpAnyH_take (i := 39) (v := .bool false) rfl (by kernel_rfl) (by kernel_rfl) (by kernel_rfl) (fun _ _ _ h => h) (Or.inl ⟨by rfl,fun w hSw => by obtain ⟨⟨s0,s1,s2⟩,⟨s3,s4,s5⟩,s6,s7,s8⟩ := hSw; go_simp⟩) (by assumption) ?_
  try simp only [Act.put,n1,n2,n3,n4,n5,n6]
  refine wpAnyH_take (i := 40) (v := .bool false) rfl (by kernel_rfl) (by kernel_rfl) (by kernel_rfl) (fun _ _ _ h => h) (Or.inl ⟨by rfl,fun w hSw => by obtain ⟨⟨s0,s1,s2⟩,⟨s3,s4,s5⟩,s6,s7,s8⟩ := hSw; go_simp⟩) (by assumption) ?_
  try simp only [Act.put,n1,n2,n3,n4,n5,n6]
  refine wpAnyH_take (i := 41) (v := .bool false) rfl (by kernel_rfl) (by kernel_rfl) (by kernel_rfl) (fun _ _ _ h => h) (Or.inl ⟨by rfl,fun w hSw => by obtain ⟨⟨s0,s1,s2⟩,⟨s3,s4,s5⟩,s6,s7,s8⟩ := hSw; go_simp⟩) (by assumption) ?_
  try simp only [Act.put,n1,n2,n3,n4,n5,n6]
  refine wpAnyH_take (i := 42) (v := .agg #[.int .i64 2,.int .i64 0,.string ⟨#[97]⟩]) rfl (by kernel_rfl) (by kernel_rfl) (by kernel_rfl) (fun _ _ _ h => h) (Or.inl ⟨by rfl,fun w hSw => by obtain ⟨⟨s0,s1,s2⟩,⟨s3,s4,s5⟩,s6,s7,s8⟩ := hSw; go_simp⟩) (by assumption) ?_
  try simp only [Act.put,n1,n2,n3,n4,n5,n6]
  refine wpAnyH_take (i := 43) (v := .agg #[.int .i64 2,.int .i64 0,.string ⟨#[98]⟩]) rfl (by kernel_rfl) (by kernel_rfl) (by kernel_rfl) (fun _ _ _ h => h) (Or.inl ⟨by rfl,fun w hSw => by obtain ⟨⟨s0,s1,s2⟩,⟨s3,s4,s5⟩,s6,s7,s8⟩ := hSw; go_simp⟩) (by assumption) ?_
  try simp only [Act.put,n1,n2,n3,n4,n5,n6]
  refine wpAnyH_ready (rs := [44]) (by kernel_rfl) (by simp) ?_
  refine AllReadyH.cons rfl (fun K hK => ?_) AllReadyH.nil
  go_simp
  go_at_call 21
  refine (bin_l _ _).mono ?_
  rintro e w55 ⟨rfl,hb⟩
  have HB55 := Lib.hid (on_below HB54.out hb)
  have HS55 := Lib.hid (HS54.out.keep hb)
  clear hb
  clear HB54 HS54
  refine hK.out _ _ HS55.out (fun hHeld2 => ?_)
  try simp only [Act.put,n1,n2,n3,n4,n5,n6]
  clear hK hHeld
  have hHeld := hHeld2
  clear hHeld2
  refine wpAnyH_ready (rs := [45]) (by kernel_rfl) (by simp) ?_
  refine AllReadyH.cons rfl (fun K hK => ?_) AllReadyH.nil
  go_simp
  have hb := alloc_below w55 (.cells #[.int .i64 2,.int .i64 0,.string ⟨#[97]⟩,.int .i64 2,.int .i64 0,.string ⟨#[98]⟩,.int .i64 5,.int .i64 11,.string ⟨#[]⟩] 45)
  have HB56 := Lib.hid (on_below HB55.out hb)
  have HS56 := Lib.hid (HS55.out.keep hb)
  have HQ56 := Lib.hid (show TmAt (w55.alloc (.cells #[.int .i64 2,.int .i64 0,.string ⟨#[97]⟩,.int .i64 2,.int .i64 0,.string ⟨#[98]⟩,.int .i64 5,.int .i64 11,.string ⟨#[]⟩] 45)) w55.heap.size pk13 from World.alloc_heap_new _ _)
  clear hb
  generalize (w55.alloc _ : World) = w56 at hK HB56 HS56 HQ56 ⊢
  generalize w55.heap.size = g56 at hK HQ56 ⊢
  refine hK.out _ _ HS56.out (fun hHeld2 => ?_)
  try simp only [Act.put,n1,n2,n3,n4,n5,n6]
  clear hK hHeld
  have hHeld := hHeld2
  clear hHeld2
  refine wpAnyH_ready (rs := [46]) (by kernel_rfl) (by simp) ?_
  refine AllReadyH.cons rfl (fun K hK => ?_) AllReadyH.nil
  go_simp
  go_at_call 16
  refine (level_lit pk13_small pk13_is HQ56.out (HE.out.all HB56.out) rfl).mono ?_
  rintro e w57 ⟨rfl,hb⟩
  have HB57 := Lib.hid (on_below HB56.out hb)
  have HS57 := Lib.hid (HS56.out.keep hb)
  clear hb
  clear HB56 HS56
  refine hK.out _ _ HS57.out (fun hHeld2 => ?_)
  try simp only [Act.put,n1,n2,n3,n4,n5,n6]
  clear hK hHeld
  have hHeld := hHeld2
  clear hHeld2
  refine wpAnyH_take (i := 47) (v := .bool false) rfl (by kernel_rfl) (by kernel_rfl) (by kernel_rfl) (fun _ _ _ h => h) (Or.inl ⟨by rfl,fun w hSw => by obtain ⟨⟨s0,s1,s2⟩,⟨s3,s4,s5⟩,s6,s7,s8⟩ := hSw; go_simp⟩) (by assumption) ?_
  try simp only [Act.put,n1,n2,n3,n4,n5,n6]
  refine wpAnyH_take (i := 48) (v := .bool false) rfl (by kernel_rfl) (by kernel_rfl) (by kernel_rfl) (fun _ _ _ h => h) (Or.inl ⟨by rfl,fun w hSw => by obtain ⟨⟨s0,s1,s2⟩,⟨s3,s4,s5⟩,s6,s7,s8⟩ := hSw; go_simp⟩) (by assumption) ?_
  try simp only [Act.put,n1,n2,n3,n4,n5,n6]
  refine wpAnyH_take (i := 49) (v := .bool false) rfl (by kernel_rfl) (by kernel_rfl) (by kernel_rfl) (fun _ _ _ h => h) (Or.inl ⟨by rfl,fun w hSw => by obtain ⟨⟨s0,s1,s2⟩,⟨s3,s4,s5⟩,s6,s7,s8⟩ := hSw; go_simp⟩) (by assumption) ?_
  try simp only [Act.put,n1,n2,n3,n4,n5,n6]
  refine wpAnyH_take (i := 50) (v := .agg #[.int .i64 2,.int .i64 0,.string ⟨#[97]⟩]) rfl (by kernel_rfl) (by kernel_rfl) (by kernel_rfl) (fun _ _ _ h => h) (Or.inl ⟨by rfl,fun w hSw => by obtain ⟨⟨s0,s1,s2⟩,⟨s3,s4,s5⟩,s6,s7,s8⟩ := hSw; go_simp⟩) (by assumption) ?_
  try simp only [Act.put,n1,n2,n3,n4,n5,n6]
  refine wpAnyH_ready (rs := [51]) (by kernel_rfl) (by simp) ?_
  refine AllReadyH.cons rfl (fun K hK => ?_) AllReadyH.nil
  go_simp
  have hb := alloc_below w57 (.cells #[.int .i64 2,.int .i64 0,.string ⟨#[97]⟩] 45)
  have HB58 := Lib.hid (on_below HB57.out hb)
  have HS58 := Lib.hid (HS57.out.keep hb)
  have HQ58 := Lib.hid (show TmAt (w57.alloc (.cells #[.int .i64 2,.int .i64 0,.string ⟨#[97]⟩] 45)) w57.heap.size pk14 from World.alloc_heap_new _ _)
  clear hb
  generalize (w57.alloc _ : World) = w58 at hK HB58 HS58 HQ58 ⊢
  generalize w57.heap.size = g58 at hK HQ58 ⊢
  refine hK.out _ _ HS58.out (fun hHeld2 => ?_)
  try simp only [Act.put,n1,n2,n3,n4,n5,n6]
  clear hK hHeld
  have hHeld := hHeld2
  clear hHeld2
  refine wpAnyH_ready (rs := [52]) (by kernel_rfl) (by simp) ?_
  refine AllReadyH.cons rfl (fun K hK => ?_) AllReadyH.nil
  go_simp
  go_at_call 16
  refine (level_lit pk14_small pk14_is HQ58.out (HE.out.all HB58.out) rfl).mono ?_
  rintro e w59 ⟨rfl,hb⟩
  have HB59 := Lib.hid (on_below HB58.out hb)
  have HS59 := Lib.hid (HS58.out.keep hb)
  clear hb
  clear HB58 HS58
  refine hK.out _ _ HS59.out (fun hHeld2 => ?_)
  try simp only [Act.put,n1,n2,n3,n4,n5,n6]
  clear hK hHeld
  have hHeld := hHeld2
  clear hHeld2
  refine wpAnyH_take (i := 53) (v := .bool false) rfl (by kernel_rfl) (by kernel_rfl) (by kernel_rfl) (fun _ _ _ h => h) (Or.inl ⟨by rfl,fun w hSw => by obtain ⟨⟨s0,s1,s2⟩,⟨s3,s4,s5⟩,s6,s7,s8⟩ := hSw; go_simp⟩) (by assumption) ?_
  try simp only [Act.put,n1,n2,n3,n4,n5,n6]
  refine wpAnyH_take (i := 54) (v := .bool false) rfl (by kernel_rfl) (by kernel_rfl) (by kernel_rfl) (fun _ _ _ h => h) (Or.inl ⟨by rfl,fun w hSw => by obtain ⟨⟨s0,s1,s2⟩,⟨s3,s4,s5⟩,s6,s7,s8⟩ := hSw; go_simp⟩) (by assumption) ?_
  try simp only [Act.put,n1,n2,n3,n4,n5,n6]
  refine wpAnyH_take (i := 55) (v := .bool false) rfl (by kernel_rfl) (by kernel_rfl) (by kernel_rfl) (fun _ _ _ h => h) (Or.inl ⟨by rfl,fun w hSw => by obtain ⟨⟨s0,s1,s2⟩,⟨s3,s4,s5⟩,s6,s7,s8⟩ := hSw; go_simp⟩) (by assumption) ?_
  try simp only [Act.put,n1,n2,n3,n4,n5,n6]
  refine wpAnyH_ready (rs := [56]) (by kernel_rfl) (by simp) ?_
  refine AllReadyH.cons rfl (fun K hK => ?_) AllReadyH.nil
  go_simp
  go_at_call 16
  refine (level_none (HE.out.all HB59.out)).mono ?_
  rintro e w60 ⟨rfl,hb⟩
  have HB60 := Lib.hid (on_below HB59.out hb)
  have HS60 := Lib.hid (HS59.out.keep hb)
  clear hb
  clear HB59 HS59
  refine hK.out _ _ HS60.out (fun hHeld2 => ?_)
  try simp only [Act.put,n1,n2,n3,n4,n5,n6]
  clear hK hHeld
  have hHeld := hHeld2
  clear hHeld2
  refine wpAnyH_take (i := 57) (v := .bool false) rfl (by kernel_rfl) (by kernel_rfl) (by kernel_rfl) (fun _ _ _ h => h) (Or.inl ⟨by rfl,fun w hSw => by obtain ⟨⟨s0,s1,s2⟩,⟨s3,s4,s5⟩,s6,s7,s8⟩ := hSw; go_simp⟩) (by assumption) ?_
  try simp only [Act.put,n1,n2,n3,n4,n5,n6]
  refine wpAnyH_take (i := 58) (v := .bool false) rfl (by kernel_rfl) (by kernel_rfl) (by kernel_rfl) (fun _ _ _ h => h) (Or.inl ⟨by rfl,fun w hSw => by obtain ⟨⟨s0,s1,s2⟩,⟨s3,s4,s5⟩,s6,s7,s8⟩ := hSw; go_simp⟩) (by assumption) ?_
  try simp only [Act.put,n1,n2,n3,n4,n5,n6]
  refine wpAnyH_done (by kernel_rfl) ?_ _
  clear HS60
  go_wp2_with fail
  go_at_call 9
  refine (src_0 (HE.out.all HB60.out)).mono ?_
  rintro e v1 ⟨rfl,hb⟩
  have HV1 := Lib.hid (on_below HB60.out hb)
  clear hb HB60
  have HQ := Lib.hid (src_1 (HE.out.all (on_alloc HV1.out (.cells #[.string ⟨#[102]⟩,.int .u64 0,.slice none 0 0,.slice none 0 0,.slice none 0 0,.slice none 0 0] 54))) (World.alloc_heap_new v1 _))
  have HW := Lib.hid (on_alloc HV1.out (.cells #[.string ⟨#[102]⟩,.int .u64 0,.slice none 0 0,.slice none 0 0,.slice none 0 0,.slice none 0 0] 54))
  go_wp2_with fail
  go_at_call 9
  refine HQ.out.mono ?_
  rintro e v2 ⟨rfl,hb⟩
  have HV2 := Lib.hid (on_below HW.out hb)
  clear hb HQ HW HV1
  have hg := World.alloc_heap_new (v2.alloc (.cells #[.int .i64 8,.string ⟨#[]⟩,.slice none 0 0,.slice none 0 0,.int .i64 9,.string ⟨#[]⟩,.slice none 0 0,.slice none 0 0] 57)) (.cells #[.string ⟨#[102]⟩,.int .u64 0,.slice none 0 0,.slice none 0 0,.slice none 0 0,.slice (some ⟨v2.heap.size,0,none⟩) 2 2] 54)
  rw [World.size_alloc] at hg
  have HW := Lib.hid (on_alloc (on_alloc HV2.out (.cells #[.int .i64 8,.string ⟨#[]⟩,.slice none 0 0,.slice none 0 0,.int .i64 9,.string ⟨#[]⟩,.slice none 0 0,.slice none 0 0] 57)) (.cells #[.string ⟨#[102]⟩,.int .u64 0,.slice none 0 0,.slice none 0 0,.slice none 0 0,.slice (some ⟨v2.heap.size,0,none⟩) 2 2] 54))
  have HQ := Lib.hid (src_2 (HE.out.all HW.out) hg (heap_new _ _ (World.alloc_heap_new v2 _)))
  clear hg
  go_wp2_with fail
  go_at_call 9
  refine HQ.out.mono ?_
  rintro e v3 ⟨rfl,hb⟩
  have HV3 := Lib.hid (on_below HW.out hb)
  clear hb HQ HW HV2
  have HQ := Lib.hid (src_3 (HE.out.all (on_alloc HV3.out (.cells #[.string ⟨#[120]⟩,.int .u64 1] 59))) (World.alloc_heap_new v3 _))
  have HW := Lib.hid (on_alloc HV3.out (.cells #[.string ⟨#[120]⟩,.int .u64 1] 59))
  go_wp2_with fail
  go_at_call 9
  refine HQ.out.mono ?_
  rintro e v4 ⟨rfl,hb⟩
  have HV4 := Lib.hid (on_below HW.out hb)
  clear hb HQ HW HV3
  have HN := Lib.hid (World.alloc_heap_new v4 (.cells #[.slice none 0 0,.slice none 0 0,.slice none 0 0,.slice none 0 0,.slice none 0 0] 27))
  have HLOW := Lib.hid (show W.heap.size ≤ v4.heap.size from HV4.out.size)
  have HV5 := Lib.hid (on_alloc HV4.out (.cells #[.slice none 0 0,.slice none 0 0,.slice none 0 0,.slice none 0 0,.slice none 0 0] 27))
  clear HV4
  go_wp2_with fail
  generalize (v4.alloc _ : World) = v5 at *
  generalize v4.heap.size = bs at *
  obtain ⟨ix,hix,hz,hs,hby⟩ := infoDe6
  go_loopw [13] (fun i wr => ∃ (k : Nat) (q : Option Addr) (c : Nat),k ≤ 6000 ∧ i = .int .i64 (k : Int) ∧ wr.heap[bs]? = some (.cells #[.slice none 0 0,.slice q k c,.slice none 0 0,.slice none 0 0,.slice none 0 0] 27 (0,0)) ∧ Hid (wr.ownsRow W.heap.size 59 2 (.slice q k c) k ((List.replicate k (⟨⟨#[120,120]⟩,0⟩ : DeZ)).flatMap deZc)) ∧ Hid (Below W.heap.size W wr)) (fun i _ => 6000 - (intOf i).toNat)
  case atStart => exact ⟨0,none,0,by decide,rfl,HN.out,Lib.hid (World.ownsRow_nil _ _ _ _),HV5⟩
  case round =>
    obtain ⟨k,q,c,hk,rfl,hbs,HOW,HBW⟩ := hrel
    clear HN HV5
    have e1 := cell_of (j := 1) hbs rfl
    by_cases hlt : k < 6000
    · have hki : (k : Int) < 6000 := by omega
      have how := HOW.out
      have hm := HBW.out.size
      have HLT := Lib.hid how.lt
      have HBS := Lib.hid hbs
      have HR1 := Lib.hid (show (List.replicate (k + 1) (⟨⟨#[120,120]⟩,0⟩ : DeZ)).flatMap deZc = (List.replicate k (⟨⟨#[120,120]⟩,0⟩ : DeZ)).flatMap deZc ++ [.string ⟨#[120,120]⟩,.int .u64 0] from by rw [List.replicate_succ',List.flatMap_append,List.flatMap_singleton]; rfl)
      generalize (List.replicate k (⟨⟨#[120,120]⟩,0⟩ : DeZ)).flatMap deZc = rk at *
      clear hbs
      go_wp2_with (at_builtin; refine wpList_append_own_at _ rfl _ _ 23 rfl W.heap.size 59 ix _ 2 24 Tryz.underlying23 hix hz hs hby rfl (by decide) _ _ _ rfl (how.alloc _) ⟨wr.heap.size,0,none⟩ 1 1 [.string ⟨#[120,120]⟩,.int .u64 0] rfl rfl (row_new wr [_,_] 59) one_de6 ?c1 ?c2 ?c3 ?_)
      case c1 => unfold maxLen; omega
      case c2 => omega
      case c3 => first | exact Nat.le_succ_of_le hm | (rw [World.size_alloc]; exact Nat.le_succ_of_le hm)
      intro v9 w9 hown9 hgrow9 _ hat9
      obtain ⟨q9,c9,rfl⟩ := own_shape hown9
      have hbs9 : w9.heap[bs]? = some (.cells #[.slice none 0 0,.slice q k c,.slice none 0 0,.slice none 0 0,.slice none 0 0] 27 (0,0)) := (grown_chg (S := fun r => (Value.slice q k c).ownBlock = some r) hgrow9 (fun r e => .inl e)).heap (heap_new _ _ HBS.out) (fun e => by obtain ⟨cur,hc⟩ := own_type (how.alloc (.cells #[.string ⟨#[120,120]⟩,.int .u64 0] 59)) e; rw [heap_new _ _ HBS.out] at hc; simp at hc)
      have HB9 := Lib.hid ((on_alloc HBW.out (.cells #[.string ⟨#[120,120]⟩,.int .u64 0] 59)).grown hgrow9 (by rw [World.size_alloc]; exact Nat.le_succ_of_le hm) (fun r hr => (HLT.out r hr).1))
      have hc9 := cell_of (j := 1) hbs9 rfl
      have hf9 := free_of (j := 1) hbs9
      have HS9 := Lib.hid hbs9
      have HO9 := Lib.hid hown9
      have HGB := Lib.hid (show W.heap.size ≤ bs from HLOW.out)
      clear hown9 hgrow9 hat9 hbs9 how e1
      go_wp2_with fail
      refine ⟨⟨k + 1,q9,c9,by omega,by go_num,heap_set HS9.out 1 _,Lib.hid ?_,Lib.hid ?_⟩,by simp [intOf]; omega⟩
      · rw [HR1.out]
        exact own_chg HO9.out ((Chg.refl (fun r => r = bs) w9).setCell (p := ⟨bs,1,none⟩) (.inl rfl) _) (fun r hr e => by subst e; obtain ⟨cur,hc⟩ := own_type HO9.out hr; rw [HS9.out] at hc; simp at hc)
      · exact HB9.out.setCell (p := ⟨bs,1,none⟩) HGB.out _
    · obtain rfl : k = 6000 := by omega
      have hsz := heap_lt hbs
      have e0 := cell_of (j := 0) hbs rfl
      have e2 := cell_of (j := 2) hbs rfl
      have e3 := cell_of (j := 3) hbs rfl
      have e4 := cell_of (j := 4) hbs rfl
      have HQ := Lib.hid (src_4 (HE.out.all HBW.out) (own_base HOW.out))
      clear hbs HOW
      go_wp2_with fail
      go_at_call 9
      refine HQ.out.mono ?_
      rintro e v6 ⟨rfl,hb⟩
      have HV6 := Lib.hid (on_below HBW.out hb)
      clear hb HQ e0 e1 e2 e3 e4
      go_wp2_with fail
      go_ret
      exact ⟨rfl,HV6.out⟩
end Go.Proofs.YtpcniebkabkikaaGreatDoor
