/- Bytes with their sum; awake. ImageBack: the law's walk. -/
import Derived.Test.YtbfkgcapkffecaaImBackPR8
namespace Go.Proofs.Ytbfkgcapkffecaa
open Go Go.RowKit Go.Proofs.Mm Go.Sort
section
variable {w:World}
set_option maxRecDepth 100000 in
set_option maxHeartbeats 2000000 in
theorem sealed_any {ad:Addr} {c:Nat} (l:List Nat) (hA:ByIn w.heap.size w (some ad) l) (hx:bytesL l) (hm:l.length≤1000000) :
    Calls Try.prog 25 #[.slice (some ad) l.length c] w fun e w'=>∃ g cp,e=.returned (.slice (some ⟨g,0,none⟩) (l.length+8) cp)∧OwnB w.heap.size w' (.slice (some ⟨g,0,none⟩) (l.length+8) cp) (l++sealF l)∧Below w.heap.size w w':=by
  have HS:=Lib.hid (Sum_any (w:=w.alloc (.cells #[.slice (some ad) l.length c] 28)) (cp:=1) [l] (pts_one hA hx (by unfold maxLen;omega)) (by unfold maxLen;simp))
  have HLT:=Lib.hid (sumF_lt sum0 sum0_lt l)
  have HCL:=Lib.hid (by_cells (hA.below (bl_al (Below.refl _ _) (.cells #[.slice (some ad) l.length c] 28)) (Nat.le_refl _) (Nat.le_refl _)))
  have hsl:=sealF_eq l
  rw [show [l].flatten=l by simp,show [l].length=1 from rfl] at HS
  generalize sumF sum0 l=S at *
  have HSL:=Lib.hid hsl
  have HM:=Lib.hid hm
  clear hA hx hsl
  obtain ⟨n,hn⟩:∃ n,l.length=n:=⟨_,rfl⟩
  have HN:=Lib.hid hn
  rw [hn] at HS hm HCL ⊢
  clear hn
  go_enter Try.func25,Try.ntmps25
  go_wp2_with fail
  refine HS.out.mono ?_
  rintro e w1 ⟨rfl,hw1⟩
  subst hw1
  have hb0:Below w.heap.size w (w.alloc (.cells #[.slice (some ad) n c] 28)):=bl_al (Below.refl _ _) _
  clear HS
  have hnil:OwnB w.heap.size (w.alloc (.cells #[.slice (some ad) n c] 28)) (.slice none 0 0) []:=World.ownsRow_nil _ _ _ _
  go_wp2_with (at_builtin;refine wpList_bytes rfl _ _ rfl w.heap.size _ [] rfl hnil ad c l (by rw [HN.out];rfl) HCL.out (by rw [HN.out];simp;omega) (by simp) ?_)
  intro v2 w2 hO2 hgr _
  have hO2:OwnB w.heap.size w2 v2 l:=hO2
  have hb2:Below w.heap.size w w2:=hb0.trans (below_own hgr (by simp) (fun t ht=>by cases ht))
  clear hgr hnil hb0
  go_wp2_with fail
  go_loopw [4,5] (fun b m wr=>∃ j:Nat,j≤8∧m=.int .i64 (7 - (j:Int))∧OwnB w.heap.size wr b (l++(List.range j).map (sealL S))∧Below w.heap.size w wr) (fun _ m _=>((intOf m)+1).toNat)
  case atStart=>exact ⟨0,by omega,rfl,by simpa using hO2,hb2⟩
  case round =>
    obtain ⟨j,hj,rfl,hO,hb⟩:=hrel
    obtain ⟨q',c',rfl⟩:=hO.slice
    have hlen:(l++(List.range j).map (sealL S)).length=n+j:=by rw [List.length_append,HN.out];simp
    by_cases hj8:j<8
    · obtain ⟨s,hs⟩:∃ s:Nat,56 - 8 * j=s:=⟨_,rfl⟩
      obtain ⟨i7,hi7⟩:∃ i7:Nat,7 - j=i7:=⟨_,rfl⟩
      have hs2:(7:Int) - (j:Int)=(i7:Int):=by omega
      rw [hs2]
      have hs64:(s:Int)≤64:=by omega
      have hmul:wrap64 (8 * (i7:Int))=(s:Int):=by rw [wrap_id (by omega) (by omega)];omega
      have hmul2:IntKind.i64.wrap (8 * (i7:Int))=(s:Int):=by rw [wrap_i64];exact hmul
      have hcv:IntKind.u64.wrap (s:Int)=(s:Int):=by rw [wrapU64];omega
      have h8s:(8:Int) * (i7:Int)=(s:Int):=by omega
      have hsh:=shrN S s
      have hsf:=shrOp S s .u64 (by omega)
      have hby:=sealByte S s
      have HV:=Lib.hid (show S / 2 ^ s % 256=sealL S j from by unfold sealL;rw [hs])
      generalize S / 2 ^ s=X at *
      generalize X % 256=x at *
      have hA2:=hO.alloc (.cells #[.int .u8 (x:Int)] 5)
      rw [hlen] at hA2 ⊢
      have HBL:=Lib.hid hb
      have hbs:=hb.size
      have hi7n:¬ (i7:Int)<0:=by omega
      clear hO hs hi7
      go_wp2_with (at_builtin;refine wpList_bytes rfl _ _ rfl w.heap.size _ (l++(List.range j).map (sealL S)) rfl hA2 ⟨_,0,none⟩ 1 [x] rfl (one_cells _ x) (by rw [hlen];simp;omega) (by simp;omega) ?_)
      intro v3 w3 hO3 hgr _
      have HO3:=Lib.hid (show OwnB w.heap.size w3 v3 (l++(List.range (j+1)).map (sealL S)) from by rw [sealR_succ,← HV.out];simpa using hO3)
      have HB3:=Lib.hid (show Below w.heap.size w w3 from (bl_al HBL.out _).trans (below_own hgr (by simp;omega) (fun t ht=>(hA2.lt t ht).1)))
      clear hO3 hgr hA2 hb
      go_wp2
      refine ⟨⟨j+1,by omega,by go_num,HO3.out,HB3.out⟩,by simp [intOf] <;> omega⟩
    · obtain rfl:j=8:=by omega
      rw [← HSL.out] at hO hlen ⊢
      obtain ⟨g,cp,hv,_⟩:=row_form hO (by rw [List.length_append,sealF_len];omega)
      rw [hlen] at hO hv ⊢
      injection hv with hv1 _ hv2
      subst hv1 hv2
      have HO:=Lib.hid hO
      have HB:=Lib.hid hb
      clear hO hb
      go_wp2
      go_ret
      exact ⟨_,_,rfl,HO.out,HB.out⟩
theorem sum_61:sumF sum0 [97]=12638187200555641996:=by decide
set_option maxRecDepth 100000 in
set_option maxHeartbeats 1000000 in
theorem awake_any (w:World):Calls Try.prog 16 #[] w fun e w'=>e=.returned (.bool true)∧Below w.heap.size w w':=by
  have HIM:=Lib.hid (img_im gv_W gv_ok (by rw [gv_len];omega))
  have HEX:=Lib.hid (show imF gvM=formL++sealF formL from by unfold imF;rw [moF_gv])
  go_enter Try.func16,Try.ntmps16
  go_wp2_with fail
  refine (given_any w).mono ?_
  rintro e w1 ⟨v,rfl,hM,hb⟩
  have HB1:=Lib.hid hb
  have HW:=Lib.hid (Write_any hM gv_W)
  clear hM hb
  go_wp2_with fail
  refine HW.out.mono ?_
  rintro e w2 ⟨⟨v2,hO,_,rfl⟩,hb⟩
  rw [if_pos ⟨gv_ok,by rw [gv_len];omega⟩] at hO
  rw [if_pos gv_ok,if_pos (by rw [gv_len];omega)]
  obtain ⟨q2,c2,rfl⟩:=hO.slice
  have hcap:(imF gvM).length≤c2∧c2≤maxLen:=by
    obtain ⟨g,cp,hv,_⟩:=row_form hO (by rw [gv_len];omega)
    injection hv with hv1 _ hv2
    subst hv1 hv2
    exact row_cap hO
  have HB2:=Lib.hid (bl_tr HB1.out hb)
  have HO2:=Lib.hid hO
  have HR:=Lib.hid (Read_any (w:=w2) (q:=q2) (c:=c2) (imF gvM) hO.in (imF_bytes _) hcap.1 hcap.2 (m0:=fun _=>none) (fun _ _ h=>by cases h))
  rw [gv_len] at HR ⊢
  rw [gv_len] at HO2
  clear hb hO hcap HW
  go_wp2_with fail
  refine HR.out.mono ?_
  rintro e w3 ⟨hb,⟨mo,v3,m3,him,rfl,_,hH,hMR⟩ | ⟨hno,rfl⟩⟩
  · have hmg:=img_one him HIM.out
    subst hmg
    obtain ⟨u1,u2,u3,u4,rfl,z1,z2,z3,z4⟩:=hMR
    obtain ⟨a1,n1,d1,rfl⟩:∃ q n c,u1=.slice q n c:=let ⟨q,c,e⟩:=slx_shape z1;⟨q,_,c,e⟩
    obtain ⟨a2,n2,d2,rfl⟩:∃ q n c,u2=.slice q n c:=let ⟨q,c,e⟩:=slx_shape z2;⟨q,_,c,e⟩
    obtain ⟨a3,n3,d3,rfl⟩:∃ q n c,u3=.slice q n c:=let ⟨q,c,e⟩:=slx_shape z3;⟨q,_,c,e⟩
    obtain ⟨a4,n4,d4,rfl⟩:∃ q n c,u4=.slice q n c:=let ⟨q,c,e⟩:=slx_shape z4;⟨q,_,c,e⟩
    have HMR:=Lib.hid (show MoR false (wC w3) (.agg #[.slice a1 n1 d1,.slice a2 n2 d2,.slice a3 n3 d3,.slice a4 n4 d4]) gvM from ⟨_,_,_,_,rfl,z1.le (has_cle hH),z2.le (has_cle hH),z3.le (has_cle hH),z4.le (has_cle hH)⟩)
    have HB3:=Lib.hid (bl_tr HB2.out hb)
    have HBB:=Lib.hid hb
    have HI:=Lib.hid (InB.new w3 #[.slice a1 n1 d1,.slice a2 n2 d2,.slice a3 n3 d3,.slice a4 n4 d4] 26)
    clear z1 z2 z3 z4 hH hb him HR
    obtain ⟨FL,hFL⟩:∃ L,formL=L:=⟨_,rfl⟩
    obtain ⟨FS,hFS⟩:∃ L,formL++sealF formL=L:=⟨_,rfl⟩
    have HFM:=Lib.hid (fun (W:World)=>show Calls Try.prog 28 #[] W (fun e w'=>∃ g,e=.returned (.slice (some ⟨g,0,none⟩) 21 21)∧OwnB W.heap.size w' (.slice (some ⟨g,0,none⟩) 21 21) FL∧Below W.heap.size W w') from (form_any W).mono fun e w' h=>⟨_,h.1,hFL ▸ h.2.1,h.2.2⟩)
    have HSE:=Lib.hid (fun (W:World) (b:Nat) (h:ByIn W.heap.size W (some ⟨b,0,none⟩) FL)=>show Calls Try.prog 25 #[.slice (some ⟨b,0,none⟩) 21 21] W (fun e w'=>∃ g cp,e=.returned (.slice (some ⟨g,0,none⟩) 29 cp)∧OwnB W.heap.size w' (.slice (some ⟨g,0,none⟩) 29 cp) FS∧Below W.heap.size W w') from by
      rw [← hFL] at h
      have:=sealed_any (w:=W) (c:=21) formL h (by intro x hx;simp [formL] at hx;omega) (by decide)
      rw [hFS] at this
      exact this)
    have HBY:=Lib.hid (fun (W:World) (g cp:Nat) (hb:Below w2.heap.size w2 W) (h:ByIn W.heap.size W (some ⟨g,0,none⟩) FS)=>show Calls Try.prog 13 #[.slice q2 29 c2,.slice (some ⟨g,0,none⟩) 29 cp] W (fun e w'=>e=.returned (.bool true)∧Below W.heap.size W w') from by
      have h29:FS.length=29:=by rw [← hFS,← HEX.out,gv_len]
      have h1:ByIn W.heap.size W q2 FS:=by
        have:=(HO2.out.in).below hb (Nat.le_refl _) hb.size
        rwa [HEX.out,hFS] at this
      have:=bytes_any q2 (some ⟨g,0,none⟩) c2 cp FS FS (by rw [h29];decide) W h1 h
      rw [decide_eq_true rfl,h29] at this
      exact this)
    clear hFL hFS
    have HSU:=Lib.hid (fun (W:World)=>show Calls Try.prog 23 #[.slice (some ⟨W.heap.size+1,0,none⟩) 1 1] ((W.alloc (.cells #[.int .u8 97] 5)).alloc (.cells #[.slice (some ⟨W.heap.size,0,none⟩) 1 1] 28)) (fun e w'=>e=.returned (.int .u64 12638187200555641996)∧w'=((W.alloc (.cells #[.int .u8 97] 5)).alloc (.cells #[.slice (some ⟨W.heap.size,0,none⟩) 1 1] 28))) from by
      have h1:=(one_own W 97).in
      have h2:=pts_one (c:=1) h1 (by intro x hx;simp at hx;omega) (by decide)
      have:=Sum_any (cp:=1) [[97]] h2 (by decide)
      rw [show ([[97]]:List (List Nat)).flatten=[97] from rfl,sum_61,World.size_alloc] at this
      exact this)
    have SK:=Lib.hid (fun (x y:World) (h:x.cell? ⟨w3.heap.size,0,none⟩=some (.slice a1 n1 d1)∧x.cell? ⟨w3.heap.size,1,none⟩=some (.slice a2 n2 d2)∧x.cell? ⟨w3.heap.size,2,none⟩=some (.slice a3 n3 d3)∧x.cell? ⟨w3.heap.size,3,none⟩=some (.slice a4 n4 d4)∧Below w3.heap.size w3 x) (hb:Below x.heap.size x y)=>show y.cell? ⟨w3.heap.size,0,none⟩=some (.slice a1 n1 d1)∧y.cell? ⟨w3.heap.size,1,none⟩=some (.slice a2 n2 d2)∧y.cell? ⟨w3.heap.size,2,none⟩=some (.slice a3 n3 d3)∧y.cell? ⟨w3.heap.size,3,none⟩=some (.slice a4 n4 d4)∧Below w3.heap.size w3 y from
      ⟨cell_b h.1 hb,cell_b h.2.1 hb,cell_b h.2.2.1 hb,cell_b h.2.2.2.1 hb,bl_tr h.2.2.2.2 hb⟩)
    have S0:=Lib.hid (show (w3.alloc (.cells #[.slice a1 n1 d1,.slice a2 n2 d2,.slice a3 n3 d3,.slice a4 n4 d4] 26)).drew.cell? ⟨w3.heap.size,0,none⟩=some (.slice a1 n1 d1)∧(w3.alloc (.cells #[.slice a1 n1 d1,.slice a2 n2 d2,.slice a3 n3 d3,.slice a4 n4 d4] 26)).drew.cell? ⟨w3.heap.size,1,none⟩=some (.slice a2 n2 d2)∧(w3.alloc (.cells #[.slice a1 n1 d1,.slice a2 n2 d2,.slice a3 n3 d3,.slice a4 n4 d4] 26)).drew.cell? ⟨w3.heap.size,2,none⟩=some (.slice a3 n3 d3)∧(w3.alloc (.cells #[.slice a1 n1 d1,.slice a2 n2 d2,.slice a3 n3 d3,.slice a4 n4 d4] 26)).drew.cell? ⟨w3.heap.size,3,none⟩=some (.slice a4 n4 d4)∧Below w3.heap.size w3 (w3.alloc (.cells #[.slice a1 n1 d1,.slice a2 n2 d2,.slice a3 n3 d3,.slice a4 n4 d4] 26)).drew from ⟨HI.out.cell (j:=0) rfl,HI.out.cell (j:=1) rfl,HI.out.cell (j:=2) rfl,HI.out.cell (j:=3) rfl,be_drew (bl_al (Below.refl _ _) _)⟩)
    obtain ⟨GM,hGM⟩:∃ G,gvM=G:=⟨_,rfl⟩
    have HGV:=Lib.hid (fun (W:World)=>show Calls Try.prog 27 #[] W (fun e w'=>∃ v,e=.returned v∧MoR false (wC w') v GM∧Below W.heap.size W w') from hGM ▸ given_any W)
    rw [hGM] at HMR
    clear hGM HEX HO2 HIM
    go_upto_region 3 with (fail)
    go_region_held3 (fun x=>x.cell? ⟨w3.heap.size,0,none⟩=some (.slice a1 n1 d1)∧x.cell? ⟨w3.heap.size,1,none⟩=some (.slice a2 n2 d2)∧x.cell? ⟨w3.heap.size,2,none⟩=some (.slice a3 n3 d3)∧x.cell? ⟨w3.heap.size,3,none⟩=some (.slice a4 n4 d4)∧Below w3.heap.size w3 x)
      (first | exact S0.out | assumption | exact SK.out _ _ (SK.out _ _ (by assumption) (bl_al (Below.refl _ _) _)) (bl_al (Below.refl _ _) _) | exact SK.out _ _ (by assumption) (bl_al (Below.refl _ _) _))
      (first
        | (go_at_call 28;refine (HFM.out _).mono ?_;rintro e y1 ⟨g1,rfl,o1,b1⟩;have hk1:=SK.out _ _ (by assumption) b1)
        | (go_at_call 25;refine (HSE.out _ _ o1.in).mono ?_;rintro e y2 ⟨g2,cp2,rfl,o2,b2⟩;have hk2:=SK.out _ _ hk1 b2)
        | (go_at_call 13;refine (HBY.out _ g2 cp2 (bl_tr HBB.out hk2.2.2.2.2) o2.in).mono ?_;rintro e y3 ⟨rfl,b3⟩;have hk3:=SK.out _ _ hk2 b3)
        | (go_at_call 27;refine (HGV.out _).mono ?_;rintro e y4 ⟨v4,rfl,m4,b4⟩;obtain ⟨r1,e1,r2,e2,r3,e3,r4,e4,rfl⟩:=mod_shape m4;have hk4:=SK.out _ _ hk3 b4)
        | (go_at_call 20;refine (kmodule_true (HMR.out.le (below_cle hk4.2.2.2.2)) m4).mono ?_;rintro e y5 ⟨rfl,b5⟩;have hk5:=SK.out _ _ hk4 b5)
        | (go_at_call 23;refine (HSU.out y5).mono ?_;rintro e y6 ⟨rfl,hy6⟩;have hk6:=SK.out _ _ (SK.out _ _ hk5 (bl_al (Below.refl _ _) (.cells #[.int .u8 97] 5))) (bl_al (Below.refl _ _) (.cells #[.slice (some ⟨y5.heap.size,0,none⟩) 1 1] 28));subst hy6))
    all_goals
      go_wp2
      go_ret
      exact ⟨rfl,bl_tr HB3.out hk6.2.2.2.2⟩
  · exact absurd HIM.out (hno gvM)
end
end Go.Proofs.Ytbfkgcapkffecaa
namespace Go.Proofs.Ytbfkgcapkffecaa
open Go Go.RowKit Go.Proofs.Mm Go.Sort
abbrev WC (m:MoM):Prop:=moOk m=true∧(imF m).length≤262144
theorem WriteR.yes {w w':World} {m:MoM} {e:Ending} (h:WriteR w m e w') (hc:WC m):∃ g c,e=.returned (.tuple #[.slice (some ⟨g,0,none⟩) (imF m).length c,.int .i64 0])∧OwnB w.heap.size w' (.slice (some ⟨g,0,none⟩) (imF m).length c) (imF m)∧(imF m).length≤c∧c≤maxLen∧Below w.heap.size w w':=by
  obtain ⟨⟨v,hO,_,he⟩,hb⟩:=h
  rw [if_pos hc] at hO
  rw [if_pos hc.1,if_pos hc.2] at he
  obtain ⟨g,c,rfl,_⟩:=row_form hO (by rw [imF_len];omega)
  exact ⟨g,c,he,hO,(row_cap hO).1,(row_cap hO).2,hb⟩
theorem WriteR.no {w w':World} {m:MoM} {e:Ending} (h:WriteR w m e w') (hc:¬ WC m):∃ z:Int,e=.returned (.tuple #[.slice none 0 0,.int .i64 z])∧z ≠ 0∧(moOk m=false→z=1)∧(moOk m=true→z=3)∧Below w.heap.size w w':=by
  obtain ⟨⟨v,hO,hv,he⟩,hb⟩:=h
  obtain rfl:=hv hc
  refine ⟨_,he,?_,?_,?_,hb⟩
  · by_cases h1:moOk m=true
    · rw [if_pos h1,if_neg (fun h2=>hc ⟨h1,h2⟩)];decide
    · rw [if_neg h1];decide
  · intro h1
    rw [if_neg (by rw [h1];simp)]
  · intro h1
    rw [if_pos h1,if_neg (fun h2=>hc ⟨h1,h2⟩)]
theorem errR_ne (d:List Nat):errR d ≠ 0:=by
  unfold errR
  split
  · decide
  · assumption
theorem zero_mo {C:Cl}:MoR false C zeroMo ⟨[],[],[],[]⟩:=⟨_,_,_,_,rfl,sl_nil,sl_nil,sl_nil,sl_nil⟩
theorem zero_W:moW ⟨[],[],[],[]⟩:=⟨⟨by decide,by simp⟩,⟨by decide,by simp⟩,⟨by decide,by simp⟩,⟨by decide,by simp⟩⟩
theorem MoR.read {w:World} {m:Mem} {v:Value} {mo:MoM} (h:MoR false (mC m) v mo) (hm:Has w m):∃ a1 n1 d1 a2 n2 d2 a3 n3 d3 a4 n4 d4,v=.agg #[.slice a1 n1 d1,.slice a2 n2 d2,.slice a3 n3 d3,.slice a4 n4 d4]∧MoR false (wC w) (.agg #[.slice a1 n1 d1,.slice a2 n2 d2,.slice a3 n3 d3,.slice a4 n4 d4]) mo:=by
  have h2:=h.le (has_cle hm)
  obtain ⟨q1,c1,q2,c2,q3,c3,q4,c4,rfl⟩:=mod_shape h2
  exact ⟨_,_,_,_,_,_,_,_,_,_,_,_,rfl,h2⟩
theorem MoR.form {lt:Bool} {C:Cl} {v:Value} {mo:MoM} (h:MoR lt C v mo):∃ a1 n1 d1 a2 n2 d2 a3 n3 d3 a4 n4 d4,v=.agg #[.slice a1 n1 d1,.slice a2 n2 d2,.slice a3 n3 d3,.slice a4 n4 d4]∧MoR lt C (.agg #[.slice a1 n1 d1,.slice a2 n2 d2,.slice a3 n3 d3,.slice a4 n4 d4]) mo:=by
  obtain ⟨q1,c1,q2,c2,q3,c3,q4,c4,rfl⟩:=mod_shape h
  exact ⟨_,_,_,_,_,_,_,_,_,_,_,_,rfl,h⟩
section
variable {w:World}
set_option maxRecDepth 100000 in
set_option maxHeartbeats 4000000 in
theorem back_law {v:Value} {m:MoM} (h:MoR false (wC w) v m) (hf:moW m) {q:Option Addr} {c:Nat} (d:List Nat) (hp:ByIn w.heap.size w q d) (hx:bytesL d) (hl:d.length≤c) (hm:c≤maxLen) :
    Calls Try.prog 7 #[v,.slice q d.length c] w fun e w'=>e=.returned (.bool true)∧Below w.heap.size w w':=by
  obtain ⟨a1,n1,d1,a2,n2,d2,a3,n3,d3,a4,n4,d4,rfl,h⟩:=h.form
  have HM:=Lib.hid h
  have HF:=Lib.hid hf
  have HR:=Lib.hid (fun (W:World) (hb:Below w.heap.size w W)=>Read_any (w:=W) (q:=q) (c:=c) d (hp.below hb (Nat.le_refl _) hb.size) hx hl hm (m0:=fun _=>none) (fun _ _ h=>by cases h))
  have HBY:=Lib.hid (fun (W:World) (g cp:Nat) (hb:Below w.heap.size w W) (h:ByIn W.heap.size W (some ⟨g,0,none⟩) d)=>by
    have:=bytes_any (some ⟨g,0,none⟩) q cp c d d (Nat.le_trans hl hm) W h (hp.below hb (Nat.le_refl _) hb.size)
    rw [decide_eq_true rfl] at this
    exact this)
  obtain ⟨n,hn⟩:∃ n,d.length=n:=⟨_,rfl⟩
  have HN:=Lib.hid hn
  rw [hn] at HR HBY ⊢
  have HB0:=Lib.hid (show Below w.heap.size w (w.alloc (.cells #[.slice a1 n1 d1,.slice a2 n2 d2,.slice a3 n3 d3,.slice a4 n4 d4] 26)) from bl_al (Below.refl _ _) _)
  have HI0:=Lib.hid (InB.new w #[.slice a1 n1 d1,.slice a2 n2 d2,.slice a3 n3 d3,.slice a4 n4 d4] 26)
  have HW:=Lib.hid (Write_any (HM.out.le (below_cle HB0.out)) HF.out)
  clear h hf hp hx hl hm hn
  go_enter Try.func7,Try.ntmps7
  go_wp2_with fail
  refine HW.out.mono ?_
  rintro e w1 hw1
  clear HW
  by_cases hC:WC m
  · obtain ⟨g,cp,rfl,hO,hc1,hc2,hb⟩:=hw1.yes hC
    have HB1:=Lib.hid (bl_tr HB0.out hb)
    have HI1:=Lib.hid (HI0.out.le hb)
    have HRD:=Lib.hid (Read_any (w:=w1) (q:=some ⟨g,0,none⟩) (c:=cp) (imF m) hO.in (imF_bytes _) hc1 hc2 (m0:=fun _=>none) (fun _ _ h=>by cases h))
    have HIM:=Lib.hid (img_im HF.out hC.1 hC.2)
    generalize (imF m).length=nb at *
    clear hb hO hw1 hc1 hc2 HB0 HI0
    go_wp2_with fail
    refine HRD.out.mono ?_
    rintro e w2 ⟨hb,⟨mo,v3,m3,him,rfl,_,hH,hMR⟩ | ⟨hno,rfl⟩⟩
    · have hmg:=img_one him HIM.out
      subst hmg
      obtain ⟨b1,k1,f1,b2,k2,f2,b3,k3,f3,b4,k4,f4,rfl,hMW⟩:=hMR.read hH
      have HB2:=Lib.hid (bl_tr HB1.out hb)
      have hI:=HI1.out.le hb
      have x0:=hI.cell (j:=0) rfl
      have x1:=hI.cell (j:=1) rfl
      have x2:=hI.cell (j:=2) rfl
      have x3:=hI.cell (j:=3) rfl
      have hlt:=hI.lt
      have HX:=Lib.hid (kmodule_true (hMW.le (below_cle (bl_al (Below.refl _ _) (.cells #[.slice b1 k1 f1,.slice b2 k2 f2,.slice b3 k3 f3,.slice b4 k4 f4] 26)))) (HM.out.le (below_cle (bl_al HB2.out (.cells #[.slice b1 k1 f1,.slice b2 k2 f2,.slice b3 k3 f3,.slice b4 k4 f4] 26)))))
      clear hMR hMW hH him hb hI HRD
      go_wp2_with fail
      refine HX.out.mono ?_
      rintro e w3 ⟨rfl,hb⟩
      have HBT:=Lib.hid (bl_tr (bl_al HB2.out _) hb)
      clear hb x0 x1 x2 x3 hlt
      go_wp2_with fail
      refine (HR.out _ HBT.out).mono ?_
      rintro e w4 ⟨hb,⟨mo,v3,m3,him,rfl,_,hH,hMR⟩ | ⟨hno,rfl⟩⟩
      · obtain ⟨hP,hIF,hL⟩:=img_is him
        obtain ⟨b1,k1,f1,b2,k2,f2,b3,k3,f3,b4,k4,f4,rfl,hMW⟩:=hMR.read hH
        have HB4:=Lib.hid (bl_tr HBT.out hb)
        have HWC:=Lib.hid (show WC mo from ⟨moOk_of hP,by rw [hIF];exact hL⟩)
        have HIF:=Lib.hid hIF
        have HW2:=Lib.hid (Write_any (hMW.le (below_cle (bl_al (Below.refl _ _) (.cells #[.slice b1 k1 f1,.slice b2 k2 f2,.slice b3 k3 f3,.slice b4 k4 f4] 26)))) (moW_of hMW hP))
        clear hMR hMW hH him hb hP hIF hL
        go_wp2_with fail
        refine HW2.out.mono ?_
        rintro e w5 hw5
        obtain ⟨g5,cp5,rfl,hO,_,_,hb⟩:=hw5.yes HWC.out
        rw [HIF.out,HN.out] at hO ⊢
        have HB5:=Lib.hid (bl_tr (bl_al HB4.out (.cells #[.slice b1 k1 f1,.slice b2 k2 f2,.slice b3 k3 f3,.slice b4 k4 f4] 26)) hb)
        have HCY:=Lib.hid (HBY.out _ g5 cp5 HB5.out hO.in)
        clear hO hb hw5
        go_wp2_with fail
        refine HCY.out.mono ?_
        rintro e w6 ⟨rfl,hb⟩
        have HB6:=Lib.hid (bl_tr HB5.out hb)
        clear hb
        go_wp2_with (go_at_call 16;refine (awake_any _).mono ?_;rintro e w7 ⟨rfl,hb⟩)
        have HB7:=Lib.hid (bl_tr HB6.out hb)
        go_ret
        exact ⟨rfl,HB7.out⟩
      · have HB4:=Lib.hid (bl_tr HBT.out hb)
        have HW2:=Lib.hid (Write_any (w:=w4.alloc (.cells #[.slice none 0 0,.slice none 0 0,.slice none 0 0,.slice none 0 0] 26)) (lt:=false) zero_mo zero_W)
        obtain ⟨er,her⟩:∃ er,errR d=er:=⟨_,rfl⟩
        have hern:¬ (er:Int)=0:=by have:=errR_ne d;omega
        rw [her]
        unfold zeroMo at HW2 ⊢
        clear hb hno her
        go_wp2_with fail
        refine HW2.out.mono ?_
        rintro e w5 hw5
        obtain ⟨⟨v5,hO,_,rfl⟩,hb⟩:=hw5
        obtain ⟨z5,hz5⟩:∃ z:Int,(if moOk ⟨[],[],[],[]⟩=true then (if (imF ⟨[],[],[],[]⟩).length≤262144 then 0 else 3) else 1)=z:=⟨_,rfl⟩
        rw [hz5]
        obtain ⟨q5,c5,rfl⟩:=hO.slice
        have HB5:=Lib.hid (bl_tr (bl_al HB4.out _) hb)
        clear hb hO hz5 HW2
        go_wp2_with (go_at_call 16;refine (awake_any _).mono ?_;rintro e w7 ⟨rfl,hb⟩)
        all_goals
          have HB7:=Lib.hid (bl_tr HB5.out hb)
          go_ret
          exact ⟨rfl,HB7.out⟩
    · exact absurd HIM.out (hno m)
  · obtain ⟨z,rfl,hz,_,_,hb⟩:=hw1.no hC
    have HBT:=Lib.hid (bl_tr HB0.out hb)
    have hzb:(z == 0)=false:=by rw [beq_eq_false_iff_ne];exact hz
    clear hb hw1 HB0 HI0
    go_wp2_with fail
    refine (HR.out _ HBT.out).mono ?_
    rintro e w4 ⟨hb,⟨mo,v3,m3,him,rfl,_,hH,hMR⟩ | ⟨hno,rfl⟩⟩
    · obtain ⟨hP,hIF,hL⟩:=img_is him
      obtain ⟨b1,k1,f1,b2,k2,f2,b3,k3,f3,b4,k4,f4,rfl,hMW⟩:=hMR.read hH
      have HB4:=Lib.hid (bl_tr HBT.out hb)
      have HWC:=Lib.hid (show WC mo from ⟨moOk_of hP,by rw [hIF];exact hL⟩)
      have HIF:=Lib.hid hIF
      have HW2:=Lib.hid (Write_any (hMW.le (below_cle (bl_al (Below.refl _ _) (.cells #[.slice b1 k1 f1,.slice b2 k2 f2,.slice b3 k3 f3,.slice b4 k4 f4] 26)))) (moW_of hMW hP))
      clear hMR hMW hH him hb hP hIF hL
      go_wp2_with fail
      refine HW2.out.mono ?_
      rintro e w5 hw5
      obtain ⟨g5,cp5,rfl,hO,_,_,hb⟩:=hw5.yes HWC.out
      rw [HIF.out,HN.out] at hO ⊢
      have HB5:=Lib.hid (bl_tr (bl_al HB4.out (.cells #[.slice b1 k1 f1,.slice b2 k2 f2,.slice b3 k3 f3,.slice b4 k4 f4] 26)) hb)
      have HCY:=Lib.hid (HBY.out _ g5 cp5 HB5.out hO.in)
      clear hO hb hw5
      go_wp2_with fail
      refine HCY.out.mono ?_
      rintro e w6 ⟨rfl,hb⟩
      have HB6:=Lib.hid (bl_tr HB5.out hb)
      clear hb
      go_wp2_with (go_at_call 16;refine (awake_any _).mono ?_;rintro e w7 ⟨rfl,hb⟩)
      have HB7:=Lib.hid (bl_tr HB6.out hb)
      go_ret
      exact ⟨rfl,HB7.out⟩
    · have HB4:=Lib.hid (bl_tr HBT.out hb)
      have HW2:=Lib.hid (Write_any (w:=w4.alloc (.cells #[.slice none 0 0,.slice none 0 0,.slice none 0 0,.slice none 0 0] 26)) (lt:=false) zero_mo zero_W)
      obtain ⟨er,her⟩:∃ er,errR d=er:=⟨_,rfl⟩
      have hern:¬ (er:Int)=0:=by have:=errR_ne d;omega
      rw [her]
      unfold zeroMo at HW2 ⊢
      clear hb hno her
      go_wp2_with fail
      refine HW2.out.mono ?_
      rintro e w5 hw5
      obtain ⟨⟨v5,hO,_,rfl⟩,hb⟩:=hw5
      obtain ⟨z5,hz5⟩:∃ z:Int,(if moOk ⟨[],[],[],[]⟩=true then (if (imF ⟨[],[],[],[]⟩).length≤262144 then 0 else 3) else 1)=z:=⟨_,rfl⟩
      rw [hz5]
      obtain ⟨q5,c5,rfl⟩:=hO.slice
      have HB5:=Lib.hid (bl_tr (bl_al HB4.out _) hb)
      clear hb hO hz5 HW2
      go_wp2_with (go_at_call 16;refine (awake_any _).mono ?_;rintro e w7 ⟨rfl,hb⟩)
      all_goals
        have HB7:=Lib.hid (bl_tr HB5.out hb)
        go_ret
        exact ⟨rfl,HB7.out⟩
end
end Go.Proofs.Ytbfkgcapkffecaa
