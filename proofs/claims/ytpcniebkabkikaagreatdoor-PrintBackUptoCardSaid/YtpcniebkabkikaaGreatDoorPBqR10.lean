/- A part of the proof of PrintBack: contracts and plain facts. -/
import Derived.Test.YtpcniebkabkikaaGreatDoorPBqR9
import Derived.Deep.RegionHeldLaw
set_option maxRecDepth 100000
set_option maxHeartbeats 8000000
open Go.Lib (hid)
open Go.Proofs.Tryz
open Go.World renaming alloc_heap_new → nwn
namespace Go.Proofs.YtpcniebkabkikaaGreatDoor
open Go Go.RowKit Go.Proofs.Mm
open List renaming setIfInBounds_toArray → n1,set_cons_zero → n2,set_cons_succ → n3,getElem_toArray → n4,getElem_cons_zero → n5,getElem_cons_succ → n6
open Go.Proofs.Syn (Tm opLv opMark unMark b1_)
def PtRow (W:World) (ps:List Pt) (e:Ending) (w':World):Prop:=∃g c,e=.returned (.slice (some ⟨g,0,none⟩) ps.length c)∧W.heap.size≤g∧(∀j u,(ptCells ps)[j]?=some u→w'.cell? ((⟨g,0,none⟩:Addr).add j)=some u)∧Below W.heap.size W w'
theorem PtNew.row {W w':World} {ps:List Pt} {e:Ending} (h:PtNew W ps e w'):PtRow W ps e w':=by
 obtain ⟨g,h1,h2,h3,h4⟩:=h
 exact ⟨g,_,h1,h2,PtAt.cells h3,h4⟩
theorem PtR.row {B:Nat} {W w':World} {ps:List Pt} {v:Value} (h:PtR B w' v ps) (hn:ps≠[]) (hB:W.heap.size≤B) (hb:Below W.heap.size W w'):PtRow W ps (.returned v) w':=by
 have hc:=fun g (hg:v.ownBlock=some g)=>World.ownsRow.cells h hg
 rcases h.2 with ⟨_,h0⟩|⟨g,cap,cur,rfl,hg,_⟩
 ·exact absurd (List.eq_nil_of_length_eq_zero h0) hn
 ·exact ⟨g,cap,rfl,by omega,hc g rfl,hb⟩
theorem ss_ (t:Tm):(ptsOf dgN t).length≤5:=by
 unfold ptsOf
 repeat' split
 all_goals simp
theorem pts_ne (t:Tm):0<(ptsOf dgN t).length:=by
 unfold ptsOf
 repeat' split
 all_goals simp
theorem S3.keep {w w':World} {b:Nat} {x y z:Value} (h:w.cell? ⟨b,0,none⟩=some x∧w.cell? ⟨b,1,none⟩=some y∧w.cell? ⟨b,2,none⟩=some z) (hb:Below w.heap.size w w'):w'.cell? ⟨b,0,none⟩=some x∧w'.cell? ⟨b,1,none⟩=some y∧w'.cell? ⟨b,2,none⟩=some z :=
 ⟨ab_ hb _ _ h.1,ab_ hb _ _ h.2.1,ab_ hb _ _ h.2.2⟩
section
variable {W:World}
theorem brack_p (lv:Nat) (t:TmZ) (hr:rightZ t=true) (hv:t.value≤9223372036854775807) (W:World) (hE:EnvP W):Calls prog 81 #[.int .i64 (lv:Int),tv t] W (PtRow W (brT dgN lv (tmN t))):=by
 have HB:=hid (b3_ W t)
 have hX:=nwn W (tb t)
 have hmx:prog.follows .mixedOrders=true:=by kernel_rfl
 have hpl:=ss_ (tmN t)
 have hpn:=pts_ne (tmN t)
 unfold brT
 obtain ⟨ps,hps⟩:∃ps,ptsOf dgN (tmN t)=ps:=⟨_,rfl⟩
 obtain ⟨lt,hlt⟩:∃lt,lvT (tmN t)=lt:=⟨_,rfl⟩
 have HLV:=hid (fun w (h:Below W.heap.size W w)=>(show Calls prog 47 #[tv t] w fun e w'=>e=.returned (.int .i64 ((lt:Nat):Int))∧w.alloc (tb t)=w' from by rw [←hlt];exact n5_ t hr w (hE.all h)))
 have HPA:=hid (fun w (h:Below W.heap.size W w)=>(show Calls prog 137 #[tv t] w (PtNew w ps) from by rw [←hps];exact parts_p t hr hv w (hE.all h)))
 rw [hps] at hpl hpn
 rw [hps,hlt]
 clear hr hv hE hps hlt
 obtain ⟨k,v,s⟩:=t
 by_cases hc:lv≤lt
 ·rw [if_pos hc]
  have h1:(lt:Int) ≥ (lv:Int):=by omega
  have HB2:=hid (bb_ HB.out (tb ⟨k,v,s⟩))
  have hX2:=ad_ (W.alloc (tb ⟨k,v,s⟩)) (tb ⟨k,v,s⟩) hX
  have d0:=aa_ (j:=0) hX2 rfl
  have d1:=aa_ (j:=1) hX2 rfl
  have d2:=aa_ (j:=2) hX2 rfl
  unfold tv tb at *
  clear hc hX2
  go_enter func81,ntmps81
  go_wp2_with (go_at_call 47;refine (HLV.out _ HB.out).mono ?_;rintro e w' ⟨rfl,rfl⟩)
  go_at_call 137
  refine (HPA.out _ HB2.out).mono ?_
  rintro e w2 ⟨g,rfl,hg,hat,hb2⟩
  have HB3:=hid (ac_ HB2.out hb2)
  have HAT:=hid hat
  have HG:=hid (Nat.le_trans HB2.out.size hg)
  clear hb2 hat hg d0 d1 d2 hX
  go_wp2_with fail
  go_ret
  exact PtNew.row ⟨g,rfl,HG.out,HAT.out,HB3.out⟩
 ·rw [if_neg hc]
  have h1:¬((lt:Int) ≥ (lv:Int)):=by omega
  have HB2:=hid (bb_ HB.out (tb ⟨k,v,s⟩))
  have hX2:=ad_ (W.alloc (tb ⟨k,v,s⟩)) (tb ⟨k,v,s⟩) hX
  have HD:=hid (show _∧_∧_ from ⟨aa_ (j:=0) hX2 rfl,aa_ (j:=1) hX2 rfl,aa_ (j:=2) hX2 rfl⟩)
  unfold tv tb at *
  clear hc hX2
  go_enter func81,ntmps81
  go_wp2_with (go_at_call 47;refine (HLV.out _ HB.out).mono ?_;rintro e w' ⟨rfl,rfl⟩)
  have hS0:=HD.out
  have HBB:=hid HB2.out
  generalize ((W.alloc _).alloc _:World)=W2 at *
  have HDd:=hid (show W2.drew.cell? ⟨W.heap.size,0,none⟩=some (.int .i64 k)∧W2.drew.cell? ⟨W.heap.size,1,none⟩=some (.int .i64 v)∧W2.drew.cell? ⟨W.heap.size,2,none⟩=some (.string s) from hS0)
  have HBd:=hid (show Below W.heap.size W W2.drew from HBB.out.drew)
  clear hS0
  refine wp_region_held_drew (S:=fun w':World=>w'.cell? ⟨W.heap.size,0,none⟩=some (.int .i64 k)∧w'.cell? ⟨W.heap.size,1,none⟩=some (.int .i64 v)∧w'.cell? ⟨W.heap.size,2,none⟩=some (.string s)) hmx HDd.out (fun hHeld=>?_)
  refine wpAnyH_take (i:=2) (v:=.agg #[.int .i64 k,.int .i64 v,.string s]) rfl (by kernel_rfl) (by kernel_rfl) (by kernel_rfl) (fun _ _ _ h=>h) (Or.inl ⟨by rfl,fun w hSw=>by obtain ⟨s0,s1,s2⟩:=hSw;go_simp⟩) (by assumption) ?_
  try simp only [Act.put,n1,n2,n3,n4,n5,n6]
  refine wpAnyH_ready (rs:=[0]) (by kernel_rfl) (by simp) ?_
  refine AllReadyH.cons rfl (fun K0 hK0=>?_) AllReadyH.nil
  go_simp
  go_at_call 139
  refine (n9_ _ _).mono ?_
  rintro e w10 ⟨rfl,hb⟩
  have HD10:=hid (S3.keep HDd.out hb)
  have HB10:=hid (ac_ HBd.out hb)
  clear hb
  refine hK0.out _ _ HD10.out (fun hHeld=>?_)
  try simp only [Act.put,n1,n2,n3,n4,n5,n6]
  refine wpAnyH_ready (rs:=[1,3]) (by kernel_rfl) (by simp) ?_
  refine AllReadyH.cons rfl (fun K1 hK1=>?_) (AllReadyH.cons rfl (fun K3 hK3=>?_) AllReadyH.nil)
  ·go_simp
   have hb:Below w10.heap.size w10 (w10.alloc (.cells #[.string ⟨#[40]⟩,.int .i64 7] 128)):=(Below.refl _ _).alloc (Nat.le_refl _) _
   have HD11:=hid (S3.keep HD10.out hb)
   have HB11:=hid (ac_ HB10.out hb)
   have HQ11_1:=hid (show PtAt (w10.alloc (.cells #[.string ⟨#[40]⟩,.int .i64 7] 128)) w10.heap.size [([40],7)] from nwn _ _)
   clear hb
   generalize (w10.alloc _:World)=w11 at *
   generalize w10.heap.size=g1 at *
   refine hK1.out _ _ HD11.out (fun hHeld=>?_)
   try simp only [Act.put,n1,n2,n3,n4,n5,n6]
   refine wpAnyH_ready (rs:=[3]) (by kernel_rfl) (by simp) ?_
   refine AllReadyH.cons rfl (fun K3 hK3=>?_) AllReadyH.nil
   go_simp
   go_at_call 137
   refine (HPA.out _ HB11.out).mono ?_
   rintro e w12 ⟨g2,rfl,_,hat,hb⟩
   have HD12:=hid (S3.keep HD11.out hb)
   have HB12:=hid (ac_ HB11.out hb)
   have HQ12_1:=hid (HQ11_1.out.keep hb)
   have HQ12_3:=hid (show PtAt w12 g2 ps from hat)
   clear hb hat
   refine hK3.out _ _ HD12.out (fun hHeld=>?_)
   try simp only [Act.put,n1,n2,n3,n4,n5,n6]
   refine wpAnyH_ready (rs:=[4]) (by kernel_rfl) (by simp) ?_
   refine AllReadyH.cons rfl (fun K4 hK4=>?_) AllReadyH.nil
   go_simp
   go_at_call 139
   refine (n9_ _ _).mono ?_
   rintro e w13 ⟨rfl,hb⟩
   have HD13:=hid (S3.keep HD12.out hb)
   have HB13:=hid (ac_ HB12.out hb)
   have HQ13_1:=hid (HQ12_1.out.keep hb)
   have HQ13_3:=hid (HQ12_3.out.keep hb)
   clear hb
   refine hK4.out _ _ HD13.out (fun hHeld=>?_)
   try simp only [Act.put,n1,n2,n3,n4,n5,n6]
   refine wpAnyH_ready (rs:=[5]) (by kernel_rfl) (by simp) ?_
   refine AllReadyH.cons rfl (fun K5 hK5=>?_) AllReadyH.nil
   go_simp
   have hb:Below w13.heap.size w13 (w13.alloc (.cells #[.string ⟨#[41]⟩,.int .i64 7] 128)):=(Below.refl _ _).alloc (Nat.le_refl _) _
   have HD14:=hid (S3.keep HD13.out hb)
   have HB14:=hid (ac_ HB13.out hb)
   have HQ14_1:=hid (HQ13_1.out.keep hb)
   have HQ14_3:=hid (HQ13_3.out.keep hb)
   have HQ14_5:=hid (show PtAt (w13.alloc (.cells #[.string ⟨#[41]⟩,.int .i64 7] 128)) w13.heap.size [([41],7)] from nwn _ _)
   clear hb
   generalize (w13.alloc _:World)=w14 at *
   generalize w13.heap.size=g3 at *
   refine hK5.out _ _ HD14.out (fun hHeld=>?_)
   try simp only [Act.put,n1,n2,n3,n4,n5,n6]
   refine wpAnyH_ready (rs:=[6]) (by kernel_rfl) (by simp) ?_
   refine AllReadyH.cons rfl (fun K6 hK6=>?_) AllReadyH.nil
   go_simp
   have hb:Below w14.heap.size w14 (w14.alloc (.cells #[.slice (some ⟨g1,0,none⟩) 1 1,.slice (some ⟨g2,0,none⟩) ps.length ps.length,.slice (some ⟨g3,0,none⟩) 1 1] 130)):=(Below.refl _ _).alloc (Nat.le_refl _) _
   have HD15:=hid (S3.keep HD14.out hb)
   have HB15:=hid (ac_ HB14.out hb)
   have HQ15_1:=hid (HQ14_1.out.keep hb)
   have HQ15_3:=hid (HQ14_3.out.keep hb)
   have HQ15_5:=hid (HQ14_5.out.keep hb)
   have HG:=hid (nwn w14 (.cells #[.slice (some ⟨g1,0,none⟩) 1 1,.slice (some ⟨g2,0,none⟩) ps.length ps.length,.slice (some ⟨g3,0,none⟩) 1 1] 130))
   clear hb
   generalize (w14.alloc _:World)=w15 at *
   generalize w14.heap.size=G at *
   refine hK6.out _ _ HD15.out (fun hHeld=>?_)
   try simp only [Act.put,n1,n2,n3,n4,n5,n6]
   refine wpAnyH_ready (rs:=[7]) (by kernel_rfl) (by simp) ?_
   refine AllReadyH.cons rfl (fun K7 hK7=>?_) AllReadyH.nil
   go_simp
   have HCC:=hid (h8_ (W:=w15) [(g1,[([40],7)]),(g2,ps),(g3,[([41],7)])] (by simp) (by intro x hx;rcases (show x=(g1,[([40],7)])∨x=(g2,ps)∨x=(g3,[([41],7)]) by simpa using hx) with rfl|rfl|rfl <;> simp;omega) (by simp) (G:=G) HG.out (by intro x hx;rcases (show x=(g1,[([40],7)])∨x=(g2,ps)∨x=(g3,[([41],7)]) by simpa using hx) with rfl|rfl|rfl <;> first|exact HQ15_1.out|exact HQ15_3.out|exact HQ15_5.out) (n:=3) rfl)
   go_at_call 138
   refine HCC.out.mono ?_
   rintro e w16 ⟨v9,rfl,ho,hb⟩
   have HD16:=hid (S3.keep HD15.out hb)
   have HB16:=hid (ac_ HB15.out hb)
   have HQ16_1:=hid (HQ15_1.out.keep hb)
   have HQ16_3:=hid (HQ15_3.out.keep hb)
   have HQ16_5:=hid (HQ15_5.out.keep hb)
   have HO:=hid (show PtR w15.heap.size w16 v9 (([40],7)::(ps++[([41],7)])) from ho)
   have HSZ:=hid HB15.out.size
   clear hb ho
   refine hK7.out _ _ HD16.out (fun hHeld=>?_)
   try simp only [Act.put,n1,n2,n3,n4,n5,n6]
   refine wpAnyH_take (i:=8) (v:=v9) rfl (by kernel_rfl) (by kernel_rfl) (by kernel_rfl) (fun _ _ _ h=>h) (Or.inl ⟨by rfl,fun w hSw=>by go_simp⟩) (by assumption) ?_
   try simp only [Act.put,n1,n2,n3,n4,n5,n6]
   refine wpAnyH_done (by kernel_rfl) ?_ _
   go_wp2_with fail
   go_ret
   exact PtR.row HO.out (by simp) HSZ.out HB16.out
  ·go_simp
   go_at_call 137
   refine (HPA.out _ HB10.out).mono ?_
   rintro e w17 ⟨g2,rfl,_,hat,hb⟩
   have HD17:=hid (S3.keep HD10.out hb)
   have HB17:=hid (ac_ HB10.out hb)
   have HQ17_3:=hid (show PtAt w17 g2 ps from hat)
   clear hb hat
   refine hK3.out _ _ HD17.out (fun hHeld=>?_)
   try simp only [Act.put,n1,n2,n3,n4,n5,n6]
   refine wpAnyH_ready (rs:=[1,4]) (by kernel_rfl) (by simp) ?_
   refine AllReadyH.cons rfl (fun K1 hK1=>?_) (AllReadyH.cons rfl (fun K4 hK4=>?_) AllReadyH.nil)
   ·go_simp
    have hb:Below w17.heap.size w17 (w17.alloc (.cells #[.string ⟨#[40]⟩,.int .i64 7] 128)):=(Below.refl _ _).alloc (Nat.le_refl _) _
    have HD18:=hid (S3.keep HD17.out hb)
    have HB18:=hid (ac_ HB17.out hb)
    have HQ18_3:=hid (HQ17_3.out.keep hb)
    have HQ18_1:=hid (show PtAt (w17.alloc (.cells #[.string ⟨#[40]⟩,.int .i64 7] 128)) w17.heap.size [([40],7)] from nwn _ _)
    clear hb
    generalize (w17.alloc _:World)=w18 at *
    generalize w17.heap.size=g1 at *
    refine hK1.out _ _ HD18.out (fun hHeld=>?_)
    try simp only [Act.put,n1,n2,n3,n4,n5,n6]
    refine wpAnyH_ready (rs:=[4]) (by kernel_rfl) (by simp) ?_
    refine AllReadyH.cons rfl (fun K4 hK4=>?_) AllReadyH.nil
    go_simp
    go_at_call 139
    refine (n9_ _ _).mono ?_
    rintro e w19 ⟨rfl,hb⟩
    have HD19:=hid (S3.keep HD18.out hb)
    have HB19:=hid (ac_ HB18.out hb)
    have HQ19_3:=hid (HQ18_3.out.keep hb)
    have HQ19_1:=hid (HQ18_1.out.keep hb)
    clear hb
    refine hK4.out _ _ HD19.out (fun hHeld=>?_)
    try simp only [Act.put,n1,n2,n3,n4,n5,n6]
    refine wpAnyH_ready (rs:=[5]) (by kernel_rfl) (by simp) ?_
    refine AllReadyH.cons rfl (fun K5 hK5=>?_) AllReadyH.nil
    go_simp
    have hb:Below w19.heap.size w19 (w19.alloc (.cells #[.string ⟨#[41]⟩,.int .i64 7] 128)):=(Below.refl _ _).alloc (Nat.le_refl _) _
    have HD20:=hid (S3.keep HD19.out hb)
    have HB20:=hid (ac_ HB19.out hb)
    have HQ20_3:=hid (HQ19_3.out.keep hb)
    have HQ20_1:=hid (HQ19_1.out.keep hb)
    have HQ20_5:=hid (show PtAt (w19.alloc (.cells #[.string ⟨#[41]⟩,.int .i64 7] 128)) w19.heap.size [([41],7)] from nwn _ _)
    clear hb
    generalize (w19.alloc _:World)=w20 at *
    generalize w19.heap.size=g3 at *
    refine hK5.out _ _ HD20.out (fun hHeld=>?_)
    try simp only [Act.put,n1,n2,n3,n4,n5,n6]
    refine wpAnyH_ready (rs:=[6]) (by kernel_rfl) (by simp) ?_
    refine AllReadyH.cons rfl (fun K6 hK6=>?_) AllReadyH.nil
    go_simp
    have hb:Below w20.heap.size w20 (w20.alloc (.cells #[.slice (some ⟨g1,0,none⟩) 1 1,.slice (some ⟨g2,0,none⟩) ps.length ps.length,.slice (some ⟨g3,0,none⟩) 1 1] 130)):=(Below.refl _ _).alloc (Nat.le_refl _) _
    have HD21:=hid (S3.keep HD20.out hb)
    have HB21:=hid (ac_ HB20.out hb)
    have HQ21_3:=hid (HQ20_3.out.keep hb)
    have HQ21_1:=hid (HQ20_1.out.keep hb)
    have HQ21_5:=hid (HQ20_5.out.keep hb)
    have HG:=hid (nwn w20 (.cells #[.slice (some ⟨g1,0,none⟩) 1 1,.slice (some ⟨g2,0,none⟩) ps.length ps.length,.slice (some ⟨g3,0,none⟩) 1 1] 130))
    clear hb
    generalize (w20.alloc _:World)=w21 at *
    generalize w20.heap.size=G at *
    refine hK6.out _ _ HD21.out (fun hHeld=>?_)
    try simp only [Act.put,n1,n2,n3,n4,n5,n6]
    refine wpAnyH_ready (rs:=[7]) (by kernel_rfl) (by simp) ?_
    refine AllReadyH.cons rfl (fun K7 hK7=>?_) AllReadyH.nil
    go_simp
    have HCC:=hid (h8_ (W:=w21) [(g1,[([40],7)]),(g2,ps),(g3,[([41],7)])] (by simp) (by intro x hx;rcases (show x=(g1,[([40],7)])∨x=(g2,ps)∨x=(g3,[([41],7)]) by simpa using hx) with rfl|rfl|rfl <;> simp;omega) (by simp) (G:=G) HG.out (by intro x hx;rcases (show x=(g1,[([40],7)])∨x=(g2,ps)∨x=(g3,[([41],7)]) by simpa using hx) with rfl|rfl|rfl <;> first|exact HQ21_1.out|exact HQ21_3.out|exact HQ21_5.out) (n:=3) rfl)
    go_at_call 138
    refine HCC.out.mono ?_
    rintro e w22 ⟨v9,rfl,ho,hb⟩
    have HD22:=hid (S3.keep HD21.out hb)
    have HB22:=hid (ac_ HB21.out hb)
    have HQ22_3:=hid (HQ21_3.out.keep hb)
    have HQ22_1:=hid (HQ21_1.out.keep hb)
    have HQ22_5:=hid (HQ21_5.out.keep hb)
    have HO:=hid (show PtR w21.heap.size w22 v9 (([40],7)::(ps++[([41],7)])) from ho)
    have HSZ:=hid HB21.out.size
    clear hb ho
    refine hK7.out _ _ HD22.out (fun hHeld=>?_)
    try simp only [Act.put,n1,n2,n3,n4,n5,n6]
    refine wpAnyH_take (i:=8) (v:=v9) rfl (by kernel_rfl) (by kernel_rfl) (by kernel_rfl) (fun _ _ _ h=>h) (Or.inl ⟨by rfl,fun w hSw=>by go_simp⟩) (by assumption) ?_
    try simp only [Act.put,n1,n2,n3,n4,n5,n6]
    refine wpAnyH_done (by kernel_rfl) ?_ _
    go_wp2_with fail
    go_ret
    exact PtR.row HO.out (by simp) HSZ.out HB22.out
   ·go_simp
    go_at_call 139
    refine (n9_ _ _).mono ?_
    rintro e w23 ⟨rfl,hb⟩
    have HD23:=hid (S3.keep HD17.out hb)
    have HB23:=hid (ac_ HB17.out hb)
    have HQ23_3:=hid (HQ17_3.out.keep hb)
    clear hb
    refine hK4.out _ _ HD23.out (fun hHeld=>?_)
    try simp only [Act.put,n1,n2,n3,n4,n5,n6]
    refine wpAnyH_ready (rs:=[1,5]) (by kernel_rfl) (by simp) ?_
    refine AllReadyH.cons rfl (fun K1 hK1=>?_) (AllReadyH.cons rfl (fun K5 hK5=>?_) AllReadyH.nil)
    ·go_simp
     have hb:Below w23.heap.size w23 (w23.alloc (.cells #[.string ⟨#[40]⟩,.int .i64 7] 128)):=(Below.refl _ _).alloc (Nat.le_refl _) _
     have HD24:=hid (S3.keep HD23.out hb)
     have HB24:=hid (ac_ HB23.out hb)
     have HQ24_3:=hid (HQ23_3.out.keep hb)
     have HQ24_1:=hid (show PtAt (w23.alloc (.cells #[.string ⟨#[40]⟩,.int .i64 7] 128)) w23.heap.size [([40],7)] from nwn _ _)
     clear hb
     generalize (w23.alloc _:World)=w24 at *
     generalize w23.heap.size=g1 at *
     refine hK1.out _ _ HD24.out (fun hHeld=>?_)
     try simp only [Act.put,n1,n2,n3,n4,n5,n6]
     refine wpAnyH_ready (rs:=[5]) (by kernel_rfl) (by simp) ?_
     refine AllReadyH.cons rfl (fun K5 hK5=>?_) AllReadyH.nil
     go_simp
     have hb:Below w24.heap.size w24 (w24.alloc (.cells #[.string ⟨#[41]⟩,.int .i64 7] 128)):=(Below.refl _ _).alloc (Nat.le_refl _) _
     have HD25:=hid (S3.keep HD24.out hb)
     have HB25:=hid (ac_ HB24.out hb)
     have HQ25_3:=hid (HQ24_3.out.keep hb)
     have HQ25_1:=hid (HQ24_1.out.keep hb)
     have HQ25_5:=hid (show PtAt (w24.alloc (.cells #[.string ⟨#[41]⟩,.int .i64 7] 128)) w24.heap.size [([41],7)] from nwn _ _)
     clear hb
     generalize (w24.alloc _:World)=w25 at *
     generalize w24.heap.size=g3 at *
     refine hK5.out _ _ HD25.out (fun hHeld=>?_)
     try simp only [Act.put,n1,n2,n3,n4,n5,n6]
     refine wpAnyH_ready (rs:=[6]) (by kernel_rfl) (by simp) ?_
     refine AllReadyH.cons rfl (fun K6 hK6=>?_) AllReadyH.nil
     go_simp
     have hb:Below w25.heap.size w25 (w25.alloc (.cells #[.slice (some ⟨g1,0,none⟩) 1 1,.slice (some ⟨g2,0,none⟩) ps.length ps.length,.slice (some ⟨g3,0,none⟩) 1 1] 130)):=(Below.refl _ _).alloc (Nat.le_refl _) _
     have HD26:=hid (S3.keep HD25.out hb)
     have HB26:=hid (ac_ HB25.out hb)
     have HQ26_3:=hid (HQ25_3.out.keep hb)
     have HQ26_1:=hid (HQ25_1.out.keep hb)
     have HQ26_5:=hid (HQ25_5.out.keep hb)
     have HG:=hid (nwn w25 (.cells #[.slice (some ⟨g1,0,none⟩) 1 1,.slice (some ⟨g2,0,none⟩) ps.length ps.length,.slice (some ⟨g3,0,none⟩) 1 1] 130))
     clear hb
     generalize (w25.alloc _:World)=w26 at *
     generalize w25.heap.size=G at *
     refine hK6.out _ _ HD26.out (fun hHeld=>?_)
     try simp only [Act.put,n1,n2,n3,n4,n5,n6]
     refine wpAnyH_ready (rs:=[7]) (by kernel_rfl) (by simp) ?_
     refine AllReadyH.cons rfl (fun K7 hK7=>?_) AllReadyH.nil
     go_simp
     have HCC:=hid (h8_ (W:=w26) [(g1,[([40],7)]),(g2,ps),(g3,[([41],7)])] (by simp) (by intro x hx;rcases (show x=(g1,[([40],7)])∨x=(g2,ps)∨x=(g3,[([41],7)]) by simpa using hx) with rfl|rfl|rfl <;> simp;omega) (by simp) (G:=G) HG.out (by intro x hx;rcases (show x=(g1,[([40],7)])∨x=(g2,ps)∨x=(g3,[([41],7)]) by simpa using hx) with rfl|rfl|rfl <;> first|exact HQ26_1.out|exact HQ26_3.out|exact HQ26_5.out) (n:=3) rfl)
     go_at_call 138
     refine HCC.out.mono ?_
     rintro e w27 ⟨v9,rfl,ho,hb⟩
     have HD27:=hid (S3.keep HD26.out hb)
     have HB27:=hid (ac_ HB26.out hb)
     have HQ27_3:=hid (HQ26_3.out.keep hb)
     have HQ27_1:=hid (HQ26_1.out.keep hb)
     have HQ27_5:=hid (HQ26_5.out.keep hb)
     have HO:=hid (show PtR w26.heap.size w27 v9 (([40],7)::(ps++[([41],7)])) from ho)
     have HSZ:=hid HB26.out.size
     clear hb ho
     refine hK7.out _ _ HD27.out (fun hHeld=>?_)
     try simp only [Act.put,n1,n2,n3,n4,n5,n6]
     refine wpAnyH_take (i:=8) (v:=v9) rfl (by kernel_rfl) (by kernel_rfl) (by kernel_rfl) (fun _ _ _ h=>h) (Or.inl ⟨by rfl,fun w hSw=>by go_simp⟩) (by assumption) ?_
     try simp only [Act.put,n1,n2,n3,n4,n5,n6]
     refine wpAnyH_done (by kernel_rfl) ?_ _
     go_wp2_with fail
     go_ret
     exact PtR.row HO.out (by simp) HSZ.out HB27.out
    ·go_simp
     have hb:Below w23.heap.size w23 (w23.alloc (.cells #[.string ⟨#[41]⟩,.int .i64 7] 128)):=(Below.refl _ _).alloc (Nat.le_refl _) _
     have HD28:=hid (S3.keep HD23.out hb)
     have HB28:=hid (ac_ HB23.out hb)
     have HQ28_3:=hid (HQ23_3.out.keep hb)
     have HQ28_5:=hid (show PtAt (w23.alloc (.cells #[.string ⟨#[41]⟩,.int .i64 7] 128)) w23.heap.size [([41],7)] from nwn _ _)
     clear hb
     generalize (w23.alloc _:World)=w28 at *
     generalize w23.heap.size=g3 at *
     refine hK5.out _ _ HD28.out (fun hHeld=>?_)
     try simp only [Act.put,n1,n2,n3,n4,n5,n6]
     refine wpAnyH_ready (rs:=[1]) (by kernel_rfl) (by simp) ?_
     refine AllReadyH.cons rfl (fun K1 hK1=>?_) AllReadyH.nil
     go_simp
     have hb:Below w28.heap.size w28 (w28.alloc (.cells #[.string ⟨#[40]⟩,.int .i64 7] 128)):=(Below.refl _ _).alloc (Nat.le_refl _) _
     have HD29:=hid (S3.keep HD28.out hb)
     have HB29:=hid (ac_ HB28.out hb)
     have HQ29_3:=hid (HQ28_3.out.keep hb)
     have HQ29_5:=hid (HQ28_5.out.keep hb)
     have HQ29_1:=hid (show PtAt (w28.alloc (.cells #[.string ⟨#[40]⟩,.int .i64 7] 128)) w28.heap.size [([40],7)] from nwn _ _)
     clear hb
     generalize (w28.alloc _:World)=w29 at *
     generalize w28.heap.size=g1 at *
     refine hK1.out _ _ HD29.out (fun hHeld=>?_)
     try simp only [Act.put,n1,n2,n3,n4,n5,n6]
     refine wpAnyH_ready (rs:=[6]) (by kernel_rfl) (by simp) ?_
     refine AllReadyH.cons rfl (fun K6 hK6=>?_) AllReadyH.nil
     go_simp
     have hb:Below w29.heap.size w29 (w29.alloc (.cells #[.slice (some ⟨g1,0,none⟩) 1 1,.slice (some ⟨g2,0,none⟩) ps.length ps.length,.slice (some ⟨g3,0,none⟩) 1 1] 130)):=(Below.refl _ _).alloc (Nat.le_refl _) _
     have HD30:=hid (S3.keep HD29.out hb)
     have HB30:=hid (ac_ HB29.out hb)
     have HQ30_3:=hid (HQ29_3.out.keep hb)
     have HQ30_5:=hid (HQ29_5.out.keep hb)
     have HQ30_1:=hid (HQ29_1.out.keep hb)
     have HG:=hid (nwn w29 (.cells #[.slice (some ⟨g1,0,none⟩) 1 1,.slice (some ⟨g2,0,none⟩) ps.length ps.length,.slice (some ⟨g3,0,none⟩) 1 1] 130))
     clear hb
     generalize (w29.alloc _:World)=w30 at *
     generalize w29.heap.size=G at *
     refine hK6.out _ _ HD30.out (fun hHeld=>?_)
     try simp only [Act.put,n1,n2,n3,n4,n5,n6]
     refine wpAnyH_ready (rs:=[7]) (by kernel_rfl) (by simp) ?_
     refine AllReadyH.cons rfl (fun K7 hK7=>?_) AllReadyH.nil
     go_simp
     have HCC:=hid (h8_ (W:=w30) [(g1,[([40],7)]),(g2,ps),(g3,[([41],7)])] (by simp) (by intro x hx;rcases (show x=(g1,[([40],7)])∨x=(g2,ps)∨x=(g3,[([41],7)]) by simpa using hx) with rfl|rfl|rfl <;> simp;omega) (by simp) (G:=G) HG.out (by intro x hx;rcases (show x=(g1,[([40],7)])∨x=(g2,ps)∨x=(g3,[([41],7)]) by simpa using hx) with rfl|rfl|rfl <;> first|exact HQ30_1.out|exact HQ30_3.out|exact HQ30_5.out) (n:=3) rfl)
     go_at_call 138
     refine HCC.out.mono ?_
     rintro e w31 ⟨v9,rfl,ho,hb⟩
     have HD31:=hid (S3.keep HD30.out hb)
     have HB31:=hid (ac_ HB30.out hb)
     have HQ31_3:=hid (HQ30_3.out.keep hb)
     have HQ31_5:=hid (HQ30_5.out.keep hb)
     have HQ31_1:=hid (HQ30_1.out.keep hb)
     have HO:=hid (show PtR w30.heap.size w31 v9 (([40],7)::(ps++[([41],7)])) from ho)
     have HSZ:=hid HB30.out.size
     clear hb ho
     refine hK7.out _ _ HD31.out (fun hHeld=>?_)
     try simp only [Act.put,n1,n2,n3,n4,n5,n6]
     refine wpAnyH_take (i:=8) (v:=v9) rfl (by kernel_rfl) (by kernel_rfl) (by kernel_rfl) (fun _ _ _ h=>h) (Or.inl ⟨by rfl,fun w hSw=>by go_simp⟩) (by assumption) ?_
     try simp only [Act.put,n1,n2,n3,n4,n5,n6]
     refine wpAnyH_done (by kernel_rfl) ?_ _
     go_wp2_with fail
     go_ret
     exact PtR.row HO.out (by simp) HSZ.out HB31.out
end
end Go.Proofs.YtpcniebkabkikaaGreatDoor
