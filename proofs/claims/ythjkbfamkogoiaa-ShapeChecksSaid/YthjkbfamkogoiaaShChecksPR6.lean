/- Check: the document's. ShapeChecks: the law's walk. -/
import Derived.Test.YthjkbfamkogoiaaShChecksPR5
import Derived.BigQuiet
import Derived.Laws.StructEq
namespace Go.Proofs.Ythjkbfamkogoiaa
open Go Go.RowKit Go.Proofs.Mm Go.Sort
theorem fnE_siz {ng na nh:Nat} {fs:List FnM} {k:Nat} (hk:k<fs.length) {s:Int} (h:sizI fs[k].params.length fs[k].results.length fs[k].locals fs[k].stack fs[k].code.length=s) (hz:s ≠ 0):fnE ng na nh fs k=(-1,s):=by
  rw [fnE,getA_at hk,h,if_pos hz]
theorem fnE_cod {ng na nh:Nat} {fs:List FnM} {k:Nat} (hk:k<fs.length) (h:sizI fs[k].params.length fs[k].results.length fs[k].locals fs[k].stack fs[k].code.length=0):fnE ng na nh fs k=codE ng na nh fs k fs[k].code.length fs[k].code:=by
  rw [fnE,getA_at hk,if_neg (by rw [h];simp)]
section
variable (qg:Option Addr) (ng cg:Nat) (qa:Option Addr) (na ca:Nat) (qh:Option Addr) (nh ch:Nat) (qf:Option Addr) (nf cf:Nat)
set_option maxRecDepth 100000 in
set_option maxHeartbeats 8000000 in
theorem refCheck_any {lt:Bool} {fs:List FnM} {arrs:List (Int × Int)} (hn:fs.length=nf) (hna:arrs.length=na) (hm:na≤140737488351232) (hmf:nf≤140737488351232) {w:World} (hF:FnAt lt (wC w) qf fs) (hA:ArAt (wC w) qa arrs) :
    Calls Try.prog 9 #[moV qg ng cg qa na ca qh nh ch qf nf cf] w fun e w'=>e=.returned (.agg (faA (chkE ng na nh arrs fs)))∧Below w.heap.size w w':=by
  have HA:=Lib.hid hA
  have HF:=Lib.hid hF
  have HI:=Lib.hid (fun W (hb:Below w.heap.size w W) f op a=>refInstr_any qg ng cg qa na ca qh nh ch qf nf cf hn (w:=W) (hF.le (below_cle hb)) f op a)
  have HN:=Lib.hid hn
  have HNA:=Lib.hid hna
  obtain ⟨R,hR⟩:∃ R,chkE ng na nh arrs fs=R:=⟨_,rfl⟩
  have HR:=Lib.hid hR
  rw [hR]
  clear hF hA hR hna hn
  obtain ⟨b,hb⟩:∃ b,w.heap.size=b:=⟨_,rfl⟩
  by_cases h1:(ng:Int) > 32
  · have HD:=Lib.hid (HR.out.symm.trans (chk_tab (a:=0) (e:=74) (by rw [HN.out];exact if_pos (by omega)) (by decide)))
    go_enter Try.func9,Try.ntmps9
    go_upto_region 1 with (fail)
    have hbA:Below w.heap.size w ((w.alloc (.cells #[.slice qg ng cg,.slice qa na ca,.slice qh nh ch,.slice qf nf cf] 26)).alloc (.cells #[.int .i64 0,.int .i64 0,.int .i64 0] 30)):=bl_al (bl_al (Below.refl _ w) _) _
    have j0:InB ((w.alloc (.cells #[.slice qg ng cg,.slice qa na ca,.slice qh nh ch,.slice qf nf cf] 26)).alloc (.cells #[.int .i64 0,.int .i64 0,.int .i64 0] 30)) b #[.slice qg ng cg,.slice qa na ca,.slice qh nh ch,.slice qf nf cf] 26:=hb ▸ (InB.new _ _ _).le (bl_al (Below.refl _ _) _)
    have j1:InB ((w.alloc (.cells #[.slice qg ng cg,.slice qa na ca,.slice qh nh ch,.slice qf nf cf] 26)).alloc (.cells #[.int .i64 0,.int .i64 0,.int .i64 0] 30)) (b+1) #[.int .i64 0,.int .i64 0,.int .i64 0] 30:=InB.new' _ _ (by simp [hb])
    generalize (w.alloc (.cells #[.slice qg ng cg,.slice qa na ca,.slice qh nh ch,.slice qf nf cf] 26)).alloc (.cells #[.int .i64 0,.int .i64 0,.int .i64 0] 30)=w0 at *
    try rw [hb]
    have HBB:=Lib.hid hb
    have HBA:=Lib.hid hbA
    have HJ0:=Lib.hid j0
    have HY:=Lib.hid j1
    have k0:w0.cell? ⟨b,0,none⟩=some (.slice qg ng cg):=j0.cell rfl
    have k1:w0.cell? ⟨b,1,none⟩=some (.slice qa na ca):=j0.cell rfl
    have k2:w0.cell? ⟨b,2,none⟩=some (.slice qh nh ch):=j0.cell rfl
    have k3:w0.cell? ⟨b,3,none⟩=some (.slice qf nf cf):=j0.cell rfl
    clear hbA j0 j1
    have r0:w0.cell? ⟨b+1,0,none⟩=some (.int .i64 0):=HY.out.cell rfl
    have r1:w0.cell? ⟨b+1,1,none⟩=some (.int .i64 0):=HY.out.cell rfl
    have r2:w0.cell? ⟨b+1,2,none⟩=some (.int .i64 0):=HY.out.cell rfl
    have g0:w0.frozen? ⟨b+1,0,none⟩=false:=free_of HY.out
    have g1:w0.frozen? ⟨b+1,1,none⟩=false:=free_of HY.out
    have g2:w0.frozen? ⟨b+1,2,none⟩=false:=free_of HY.out
    go_wp2
    have hW:=heap_set (heap_set (heap_set HY.out 0 (.int .i64 (74))) 1 (.int .i64 (-1))) 2 (.int .i64 (0))
    have hbs:=HBB.out
    have hWB:=(((HBA.out).setCell (p:=⟨b+1,0,none⟩) (by show w.heap.size≤b+1;omega) (.int .i64 (74))).setCell (p:=⟨b+1,1,none⟩) (by show w.heap.size≤b+1;omega) (.int .i64 (-1))).setCell (p:=⟨b+1,2,none⟩) (by show w.heap.size≤b+1;omega) (.int .i64 (0))
    generalize ((World.setCell _ _ _).setCell _ _).setCell _ _=wE at *
    have c0:=cell_of (j:=0) hW rfl
    have c1:=cell_of (j:=1) hW rfl
    have c2:=cell_of (j:=2) hW rfl
    exact bodyPost_ret (v:=.agg #[.int .i64 (74),.int .i64 (-1),.int .i64 (0)]) (by simp [results,Try.results9,go_sem,c0,c1,c2]) rfl ⟨by rw [HD.out];rfl,by first | exact hWB | (rw [← HBB.out];exact hWB)⟩
  by_cases h2:(na:Int) > 16
  · have HD:=Lib.hid (HR.out.symm.trans (chk_tab (a:=0) (e:=74) (by rw [HN.out];exact if_pos (by omega)) (by decide)))
    go_enter Try.func9,Try.ntmps9
    go_upto_region 1 with (fail)
    have hbA:Below w.heap.size w ((w.alloc (.cells #[.slice qg ng cg,.slice qa na ca,.slice qh nh ch,.slice qf nf cf] 26)).alloc (.cells #[.int .i64 0,.int .i64 0,.int .i64 0] 30)):=bl_al (bl_al (Below.refl _ w) _) _
    have j0:InB ((w.alloc (.cells #[.slice qg ng cg,.slice qa na ca,.slice qh nh ch,.slice qf nf cf] 26)).alloc (.cells #[.int .i64 0,.int .i64 0,.int .i64 0] 30)) b #[.slice qg ng cg,.slice qa na ca,.slice qh nh ch,.slice qf nf cf] 26:=hb ▸ (InB.new _ _ _).le (bl_al (Below.refl _ _) _)
    have j1:InB ((w.alloc (.cells #[.slice qg ng cg,.slice qa na ca,.slice qh nh ch,.slice qf nf cf] 26)).alloc (.cells #[.int .i64 0,.int .i64 0,.int .i64 0] 30)) (b+1) #[.int .i64 0,.int .i64 0,.int .i64 0] 30:=InB.new' _ _ (by simp [hb])
    generalize (w.alloc (.cells #[.slice qg ng cg,.slice qa na ca,.slice qh nh ch,.slice qf nf cf] 26)).alloc (.cells #[.int .i64 0,.int .i64 0,.int .i64 0] 30)=w0 at *
    try rw [hb]
    have HBB:=Lib.hid hb
    have HBA:=Lib.hid hbA
    have HJ0:=Lib.hid j0
    have HY:=Lib.hid j1
    have k0:w0.cell? ⟨b,0,none⟩=some (.slice qg ng cg):=j0.cell rfl
    have k1:w0.cell? ⟨b,1,none⟩=some (.slice qa na ca):=j0.cell rfl
    have k2:w0.cell? ⟨b,2,none⟩=some (.slice qh nh ch):=j0.cell rfl
    have k3:w0.cell? ⟨b,3,none⟩=some (.slice qf nf cf):=j0.cell rfl
    clear hbA j0 j1
    have r0:w0.cell? ⟨b+1,0,none⟩=some (.int .i64 0):=HY.out.cell rfl
    have r1:w0.cell? ⟨b+1,1,none⟩=some (.int .i64 0):=HY.out.cell rfl
    have r2:w0.cell? ⟨b+1,2,none⟩=some (.int .i64 0):=HY.out.cell rfl
    have g0:w0.frozen? ⟨b+1,0,none⟩=false:=free_of HY.out
    have g1:w0.frozen? ⟨b+1,1,none⟩=false:=free_of HY.out
    have g2:w0.frozen? ⟨b+1,2,none⟩=false:=free_of HY.out
    go_wp2
    have hW:=heap_set (heap_set (heap_set HY.out 0 (.int .i64 (74))) 1 (.int .i64 (-1))) 2 (.int .i64 (0))
    have hbs:=HBB.out
    have hWB:=(((HBA.out).setCell (p:=⟨b+1,0,none⟩) (by show w.heap.size≤b+1;omega) (.int .i64 (74))).setCell (p:=⟨b+1,1,none⟩) (by show w.heap.size≤b+1;omega) (.int .i64 (-1))).setCell (p:=⟨b+1,2,none⟩) (by show w.heap.size≤b+1;omega) (.int .i64 (0))
    generalize ((World.setCell _ _ _).setCell _ _).setCell _ _=wE at *
    have c0:=cell_of (j:=0) hW rfl
    have c1:=cell_of (j:=1) hW rfl
    have c2:=cell_of (j:=2) hW rfl
    exact bodyPost_ret (v:=.agg #[.int .i64 (74),.int .i64 (-1),.int .i64 (0)]) (by simp [results,Try.results9,go_sem,c0,c1,c2]) rfl ⟨by rw [HD.out];rfl,by first | exact hWB | (rw [← HBB.out];exact hWB)⟩
  by_cases h3:(nh:Int) > 16
  · have HD:=Lib.hid (HR.out.symm.trans (chk_tab (a:=0) (e:=74) (by rw [HN.out];exact if_pos (by omega)) (by decide)))
    go_enter Try.func9,Try.ntmps9
    go_upto_region 1 with (fail)
    have hbA:Below w.heap.size w ((w.alloc (.cells #[.slice qg ng cg,.slice qa na ca,.slice qh nh ch,.slice qf nf cf] 26)).alloc (.cells #[.int .i64 0,.int .i64 0,.int .i64 0] 30)):=bl_al (bl_al (Below.refl _ w) _) _
    have j0:InB ((w.alloc (.cells #[.slice qg ng cg,.slice qa na ca,.slice qh nh ch,.slice qf nf cf] 26)).alloc (.cells #[.int .i64 0,.int .i64 0,.int .i64 0] 30)) b #[.slice qg ng cg,.slice qa na ca,.slice qh nh ch,.slice qf nf cf] 26:=hb ▸ (InB.new _ _ _).le (bl_al (Below.refl _ _) _)
    have j1:InB ((w.alloc (.cells #[.slice qg ng cg,.slice qa na ca,.slice qh nh ch,.slice qf nf cf] 26)).alloc (.cells #[.int .i64 0,.int .i64 0,.int .i64 0] 30)) (b+1) #[.int .i64 0,.int .i64 0,.int .i64 0] 30:=InB.new' _ _ (by simp [hb])
    generalize (w.alloc (.cells #[.slice qg ng cg,.slice qa na ca,.slice qh nh ch,.slice qf nf cf] 26)).alloc (.cells #[.int .i64 0,.int .i64 0,.int .i64 0] 30)=w0 at *
    try rw [hb]
    have HBB:=Lib.hid hb
    have HBA:=Lib.hid hbA
    have HJ0:=Lib.hid j0
    have HY:=Lib.hid j1
    have k0:w0.cell? ⟨b,0,none⟩=some (.slice qg ng cg):=j0.cell rfl
    have k1:w0.cell? ⟨b,1,none⟩=some (.slice qa na ca):=j0.cell rfl
    have k2:w0.cell? ⟨b,2,none⟩=some (.slice qh nh ch):=j0.cell rfl
    have k3:w0.cell? ⟨b,3,none⟩=some (.slice qf nf cf):=j0.cell rfl
    clear hbA j0 j1
    have r0:w0.cell? ⟨b+1,0,none⟩=some (.int .i64 0):=HY.out.cell rfl
    have r1:w0.cell? ⟨b+1,1,none⟩=some (.int .i64 0):=HY.out.cell rfl
    have r2:w0.cell? ⟨b+1,2,none⟩=some (.int .i64 0):=HY.out.cell rfl
    have g0:w0.frozen? ⟨b+1,0,none⟩=false:=free_of HY.out
    have g1:w0.frozen? ⟨b+1,1,none⟩=false:=free_of HY.out
    have g2:w0.frozen? ⟨b+1,2,none⟩=false:=free_of HY.out
    go_wp2
    have hW:=heap_set (heap_set (heap_set HY.out 0 (.int .i64 (74))) 1 (.int .i64 (-1))) 2 (.int .i64 (0))
    have hbs:=HBB.out
    have hWB:=(((HBA.out).setCell (p:=⟨b+1,0,none⟩) (by show w.heap.size≤b+1;omega) (.int .i64 (74))).setCell (p:=⟨b+1,1,none⟩) (by show w.heap.size≤b+1;omega) (.int .i64 (-1))).setCell (p:=⟨b+1,2,none⟩) (by show w.heap.size≤b+1;omega) (.int .i64 (0))
    generalize ((World.setCell _ _ _).setCell _ _).setCell _ _=wE at *
    have c0:=cell_of (j:=0) hW rfl
    have c1:=cell_of (j:=1) hW rfl
    have c2:=cell_of (j:=2) hW rfl
    exact bodyPost_ret (v:=.agg #[.int .i64 (74),.int .i64 (-1),.int .i64 (0)]) (by simp [results,Try.results9,go_sem,c0,c1,c2]) rfl ⟨by rw [HD.out];rfl,by first | exact hWB | (rw [← HBB.out];exact hWB)⟩
  by_cases h4:(nf:Int) > 32
  · have HD:=Lib.hid (HR.out.symm.trans (chk_tab (a:=0) (e:=74) (by rw [HN.out];exact if_pos (by omega)) (by decide)))
    go_enter Try.func9,Try.ntmps9
    go_upto_region 1 with (fail)
    have hbA:Below w.heap.size w ((w.alloc (.cells #[.slice qg ng cg,.slice qa na ca,.slice qh nh ch,.slice qf nf cf] 26)).alloc (.cells #[.int .i64 0,.int .i64 0,.int .i64 0] 30)):=bl_al (bl_al (Below.refl _ w) _) _
    have j0:InB ((w.alloc (.cells #[.slice qg ng cg,.slice qa na ca,.slice qh nh ch,.slice qf nf cf] 26)).alloc (.cells #[.int .i64 0,.int .i64 0,.int .i64 0] 30)) b #[.slice qg ng cg,.slice qa na ca,.slice qh nh ch,.slice qf nf cf] 26:=hb ▸ (InB.new _ _ _).le (bl_al (Below.refl _ _) _)
    have j1:InB ((w.alloc (.cells #[.slice qg ng cg,.slice qa na ca,.slice qh nh ch,.slice qf nf cf] 26)).alloc (.cells #[.int .i64 0,.int .i64 0,.int .i64 0] 30)) (b+1) #[.int .i64 0,.int .i64 0,.int .i64 0] 30:=InB.new' _ _ (by simp [hb])
    generalize (w.alloc (.cells #[.slice qg ng cg,.slice qa na ca,.slice qh nh ch,.slice qf nf cf] 26)).alloc (.cells #[.int .i64 0,.int .i64 0,.int .i64 0] 30)=w0 at *
    try rw [hb]
    have HBB:=Lib.hid hb
    have HBA:=Lib.hid hbA
    have HJ0:=Lib.hid j0
    have HY:=Lib.hid j1
    have k0:w0.cell? ⟨b,0,none⟩=some (.slice qg ng cg):=j0.cell rfl
    have k1:w0.cell? ⟨b,1,none⟩=some (.slice qa na ca):=j0.cell rfl
    have k2:w0.cell? ⟨b,2,none⟩=some (.slice qh nh ch):=j0.cell rfl
    have k3:w0.cell? ⟨b,3,none⟩=some (.slice qf nf cf):=j0.cell rfl
    clear hbA j0 j1
    have r0:w0.cell? ⟨b+1,0,none⟩=some (.int .i64 0):=HY.out.cell rfl
    have r1:w0.cell? ⟨b+1,1,none⟩=some (.int .i64 0):=HY.out.cell rfl
    have r2:w0.cell? ⟨b+1,2,none⟩=some (.int .i64 0):=HY.out.cell rfl
    have g0:w0.frozen? ⟨b+1,0,none⟩=false:=free_of HY.out
    have g1:w0.frozen? ⟨b+1,1,none⟩=false:=free_of HY.out
    have g2:w0.frozen? ⟨b+1,2,none⟩=false:=free_of HY.out
    go_wp2
    have hW:=heap_set (heap_set (heap_set HY.out 0 (.int .i64 (74))) 1 (.int .i64 (-1))) 2 (.int .i64 (0))
    have hbs:=HBB.out
    have hWB:=(((HBA.out).setCell (p:=⟨b+1,0,none⟩) (by show w.heap.size≤b+1;omega) (.int .i64 (74))).setCell (p:=⟨b+1,1,none⟩) (by show w.heap.size≤b+1;omega) (.int .i64 (-1))).setCell (p:=⟨b+1,2,none⟩) (by show w.heap.size≤b+1;omega) (.int .i64 (0))
    generalize ((World.setCell _ _ _).setCell _ _).setCell _ _=wE at *
    have c0:=cell_of (j:=0) hW rfl
    have c1:=cell_of (j:=1) hW rfl
    have c2:=cell_of (j:=2) hW rfl
    exact bodyPost_ret (v:=.agg #[.int .i64 (74),.int .i64 (-1),.int .i64 (0)]) (by simp [results,Try.results9,go_sem,c0,c1,c2]) rfl ⟨by rw [HD.out];rfl,by first | exact hWB | (rw [← HBB.out];exact hWB)⟩
  have HTB:=Lib.hid (show tabI ng na nh fs.length arrs=match fstB (oddI arrs) na with | some k=>((k:Int),(130:Int)) | none=>(0,0) by rw [HN.out];exact if_neg (by omega))
  go_enter Try.func9,Try.ntmps9
  go_upto_region 1 with (fail)
  have hbA:Below w.heap.size w ((w.alloc (.cells #[.slice qg ng cg,.slice qa na ca,.slice qh nh ch,.slice qf nf cf] 26)).alloc (.cells #[.int .i64 0,.int .i64 0,.int .i64 0] 30)):=bl_al (bl_al (Below.refl _ w) _) _
  have j0:InB ((w.alloc (.cells #[.slice qg ng cg,.slice qa na ca,.slice qh nh ch,.slice qf nf cf] 26)).alloc (.cells #[.int .i64 0,.int .i64 0,.int .i64 0] 30)) b #[.slice qg ng cg,.slice qa na ca,.slice qh nh ch,.slice qf nf cf] 26:=hb ▸ (InB.new _ _ _).le (bl_al (Below.refl _ _) _)
  have j1:InB ((w.alloc (.cells #[.slice qg ng cg,.slice qa na ca,.slice qh nh ch,.slice qf nf cf] 26)).alloc (.cells #[.int .i64 0,.int .i64 0,.int .i64 0] 30)) (b+1) #[.int .i64 0,.int .i64 0,.int .i64 0] 30:=InB.new' _ _ (by simp [hb])
  generalize (w.alloc (.cells #[.slice qg ng cg,.slice qa na ca,.slice qh nh ch,.slice qf nf cf] 26)).alloc (.cells #[.int .i64 0,.int .i64 0,.int .i64 0] 30)=w0 at *
  try rw [hb]
  have HBB:=Lib.hid hb
  have HBA:=Lib.hid hbA
  have HJ0:=Lib.hid j0
  have HY:=Lib.hid j1
  have k0:w0.cell? ⟨b,0,none⟩=some (.slice qg ng cg):=j0.cell rfl
  have k1:w0.cell? ⟨b,1,none⟩=some (.slice qa na ca):=j0.cell rfl
  have k2:w0.cell? ⟨b,2,none⟩=some (.slice qh nh ch):=j0.cell rfl
  have k3:w0.cell? ⟨b,3,none⟩=some (.slice qf nf cf):=j0.cell rfl
  clear hbA j0 j1
  go_wp2_with fail
  clear k0 k1 k2 k3 h1 h2 h3 h4
  go_loopw [3] (fun i wr=>∃ k:Nat,k≤na∧i=.int .i64 k∧Hid (Below w0.heap.size w0 wr)∧Hid (∀ j,j<k→oddI arrs j=false)) (fun i _=>na - (intOf i).toNat)
  case atStart=>exact ⟨0,Nat.zero_le _,rfl,Lib.hid (Below.refl _ _),Lib.hid (fun j h=>absurd h (by omega))⟩
  case round =>
    obtain ⟨k,hk,rfl,HB,HT⟩:=hrel
    have k1:wr.cell? ⟨b,1,none⟩=some (.slice qa na ca):=(HJ0.out.le HB.out).cell rfl
    by_cases hlt:k<na
    · have hk1:k<arrs.length:=by rw [HNA.out];exact hlt
      have HY:=Lib.hid (HY.out.le HB.out)
      obtain ⟨g,o,rfl,a0,a1⟩:=HA.out k hk1
      have e0:=below_cle (bl_tr HBA.out HB.out) _ _ a0
      unfold wC at e0
      have HO:=Lib.hid (show oddI arrs k=decide (arrs[k].1<1 ∨ arrs[k].1 > 256) from by unfold oddI;rw [getA_at hk1])
      clear a0 a1
      generalize arrs[k].1=z0 at *
      clear hk1
      have hki:(k:Int)<(na:Int):=by omega
      by_cases hz:z0<1
      · have HD:=Lib.hid (HR.out.symm.trans (chk_tab (a:=(k:Int)) (e:=130) (by rw [HTB.out,fst_some (k:=k) HT.out hlt (HO.out.trans (decide_eq_true (.inl hz)))]) (by decide)))
        have r0:wr.cell? ⟨b+1,0,none⟩=some (.int .i64 0):=HY.out.cell rfl
        have r1:wr.cell? ⟨b+1,1,none⟩=some (.int .i64 0):=HY.out.cell rfl
        have r2:wr.cell? ⟨b+1,2,none⟩=some (.int .i64 0):=HY.out.cell rfl
        have g0:wr.frozen? ⟨b+1,0,none⟩=false:=free_of HY.out
        have g1:wr.frozen? ⟨b+1,1,none⟩=false:=free_of HY.out
        have g2:wr.frozen? ⟨b+1,2,none⟩=false:=free_of HY.out
        go_wp2
        have hW:=heap_set (heap_set (heap_set HY.out 0 (.int .i64 (130))) 1 (.int .i64 (-1))) 2 (.int .i64 ((k:Int)))
        have hbs:=HBB.out
        have hWB:=(((bl_tr HBA.out HB.out).setCell (p:=⟨b+1,0,none⟩) (by show w.heap.size≤b+1;omega) (.int .i64 (130))).setCell (p:=⟨b+1,1,none⟩) (by show w.heap.size≤b+1;omega) (.int .i64 (-1))).setCell (p:=⟨b+1,2,none⟩) (by show w.heap.size≤b+1;omega) (.int .i64 ((k:Int)))
        generalize ((World.setCell _ _ _).setCell _ _).setCell _ _=wE at *
        have c0:=cell_of (j:=0) hW rfl
        have c1:=cell_of (j:=1) hW rfl
        have c2:=cell_of (j:=2) hW rfl
        exact bodyPost_ret (v:=.agg #[.int .i64 (130),.int .i64 (-1),.int .i64 ((k:Int))]) (by simp [results,Try.results9,go_sem,c0,c1,c2]) rfl ⟨by rw [HD.out];rfl,by first | exact hWB | (rw [← HBB.out];exact hWB)⟩
      · by_cases hz2:z0 > 256
        · have HD:=Lib.hid (HR.out.symm.trans (chk_tab (a:=(k:Int)) (e:=130) (by rw [HTB.out,fst_some (k:=k) HT.out hlt (HO.out.trans (decide_eq_true (.inr hz2)))]) (by decide)))
          have r0:wr.cell? ⟨b+1,0,none⟩=some (.int .i64 0):=HY.out.cell rfl
          have r1:wr.cell? ⟨b+1,1,none⟩=some (.int .i64 0):=HY.out.cell rfl
          have r2:wr.cell? ⟨b+1,2,none⟩=some (.int .i64 0):=HY.out.cell rfl
          have g0:wr.frozen? ⟨b+1,0,none⟩=false:=free_of HY.out
          have g1:wr.frozen? ⟨b+1,1,none⟩=false:=free_of HY.out
          have g2:wr.frozen? ⟨b+1,2,none⟩=false:=free_of HY.out
          go_wp2
          have hW:=heap_set (heap_set (heap_set HY.out 0 (.int .i64 (130))) 1 (.int .i64 (-1))) 2 (.int .i64 ((k:Int)))
          have hbs:=HBB.out
          have hWB:=(((bl_tr HBA.out HB.out).setCell (p:=⟨b+1,0,none⟩) (by show w.heap.size≤b+1;omega) (.int .i64 (130))).setCell (p:=⟨b+1,1,none⟩) (by show w.heap.size≤b+1;omega) (.int .i64 (-1))).setCell (p:=⟨b+1,2,none⟩) (by show w.heap.size≤b+1;omega) (.int .i64 ((k:Int)))
          generalize ((World.setCell _ _ _).setCell _ _).setCell _ _=wE at *
          have c0:=cell_of (j:=0) hW rfl
          have c1:=cell_of (j:=1) hW rfl
          have c2:=cell_of (j:=2) hW rfl
          exact bodyPost_ret (v:=.agg #[.int .i64 (130),.int .i64 (-1),.int .i64 ((k:Int))]) (by simp [results,Try.results9,go_sem,c0,c1,c2]) rfl ⟨by rw [HD.out];rfl,by first | exact hWB | (rw [← HBB.out];exact hWB)⟩
        · have HS:=Lib.hid (step_no HT.out (HO.out.trans (decide_eq_false (by omega))))
          go_wp2_with fail
          exact ⟨⟨k+1,by omega,by go_num,HB,HS⟩,by simp [intOf];omega⟩
    · have HTB2:=Lib.hid (show tabI ng na nh fs.length arrs=(0,0) by rw [HTB.out,fst_none (fun j hj=>HT.out j (by omega))])
      have HBS:=Lib.hid (bl_tr HBA.out HB.out)
      have HJ0:=Lib.hid (HJ0.out.le HB.out)
      have HY:=Lib.hid (HY.out.le HB.out)
      clear HT HTB
      go_wp2_with fail
      clear k1 hlt hk
      clear HB
      generalize wr=w1 at *
      go_loopw [4] (fun i wr=>∃ k:Nat,k≤nf∧i=.int .i64 k∧Hid (Below w1.heap.size w1 wr)∧Hid (∀ j,j<k→decide ((fnE ng na nh fs j).2 ≠ 0)=false)) (fun i _=>nf - (intOf i).toNat)
      case atStart=>exact ⟨0,Nat.zero_le _,rfl,Lib.hid (Below.refl _ _),Lib.hid (fun j h=>absurd h (by omega))⟩
      case round =>
        obtain ⟨k,hk,rfl,HB,HT⟩:=hrel
        have k3:wr.cell? ⟨b,3,none⟩=some (.slice qf nf cf):=(HJ0.out.le HB.out).cell rfl
        by_cases hlt:k<nf
        · have hk1:k<fs.length:=by rw [HN.out];exact hlt
          obtain ⟨g,o,qp,cp,qr,cr,qc,cc,rfl,hK,hcd,_,_,hmc⟩:=fn_at HF.out hk1
          have HCD:=Lib.hid hcd.cells
          clear hcd
          have HSZ:=Lib.hid (fun s hs hz=>HR.out.symm.trans (chk_hit HTB2.out HT.out hk1 (fnE_siz hk1 (s:=s) hs hz) hz))
          have HS0:=Lib.hid (fun h=>fnE_cod (ng:=ng) (na:=na) (nh:=nh) hk1 h)
          have HRH:=Lib.hid (fun a1 e1 (h:fnE ng na nh fs k=(a1,e1)) hz=>HR.out.symm.trans (chk_hit HTB2.out HT.out hk1 h hz))
          obtain ⟨code,hcode⟩:∃ code,fs[k].code=code:=⟨_,rfl⟩
          rw [hcode] at hK HCD HSZ HS0 hmc
          clear hcode
          generalize fs[k].params.length=np at *
          generalize fs[k].results.length=nr at *
          obtain ⟨nc,hnc⟩:∃ nc,code.length=nc:=⟨_,rfl⟩
          have HNC:=Lib.hid hnc
          rw [hnc] at hK HSZ HS0 hmc
          clear hnc
          generalize fs[k].locals=lo at *
          generalize fs[k].level=lv at *
          generalize fs[k].stack=st at *
          have HMC:=Lib.hid hmc
          clear hmc
          obtain ⟨a0,a1,a2,a3,a4,a5⟩:=hK.le (bl_tr HBS.out HB.out)
          clear hK hk1
          have hki:(k:Int)<(nf:Int):=by omega
          go_upto_region 12 with (fail)
          have HB3:=Lib.hid (bl_al HB.out (.cells #[.int .u64 lv,.slice qp np cp,.slice qr nr cr,.int .i64 lo,.int .i64 st,.slice qc nc cc] 45))
          have HW3:=Lib.hid (InB.new wr #[.int .u64 lv,.slice qp np cp,.slice qr nr cr,.int .i64 lo,.int .i64 st,.slice qc nc cc] 45)
          generalize wr.alloc (.cells #[.int .u64 lv,.slice qp np cp,.slice qr nr cr,.int .i64 lo,.int .i64 st,.slice qc nc cc] 45)=W3 at *
          obtain ⟨bf,hbf⟩:∃ bf,wr.heap.size=bf:=⟨_,rfl⟩
          rw [hbf] at HW3 ⊢
          clear hbf a0 a1 a2 a3 a4 a5 k3
          have HY:=Lib.hid (HY.out.le HB3.out)
          have a1:W3.cell? ⟨bf,1,none⟩=some (.slice qp np cp):=HW3.out.cell rfl
          have a2:W3.cell? ⟨bf,2,none⟩=some (.slice qr nr cr):=HW3.out.cell rfl
          have a3:W3.cell? ⟨bf,3,none⟩=some (.int .i64 lo):=HW3.out.cell rfl
          have a4:W3.cell? ⟨bf,4,none⟩=some (.int .i64 st):=HW3.out.cell rfl
          have a5:W3.cell? ⟨bf,5,none⟩=some (.slice qc nc cc):=HW3.out.cell rfl
          by_cases h1:(np:Int) > 8
          · have HD:=Lib.hid (HSZ.out 74 (show sizI np nr lo st nc=74 from if_pos (by omega)) (by decide))
            have r0:W3.cell? ⟨b+1,0,none⟩=some (.int .i64 0):=HY.out.cell rfl
            have r1:W3.cell? ⟨b+1,1,none⟩=some (.int .i64 0):=HY.out.cell rfl
            have r2:W3.cell? ⟨b+1,2,none⟩=some (.int .i64 0):=HY.out.cell rfl
            have g0:W3.frozen? ⟨b+1,0,none⟩=false:=free_of HY.out
            have g1:W3.frozen? ⟨b+1,1,none⟩=false:=free_of HY.out
            have g2:W3.frozen? ⟨b+1,2,none⟩=false:=free_of HY.out
            go_wp2
            have hW:=heap_set (heap_set (heap_set HY.out 0 (.int .i64 (74))) 1 (.int .i64 ((k:Int)))) 2 (.int .i64 (-1))
            have hbs:=HBB.out
            have hWB:=(((bl_tr HBS.out HB3.out).setCell (p:=⟨b+1,0,none⟩) (by show w.heap.size≤b+1;omega) (.int .i64 (74))).setCell (p:=⟨b+1,1,none⟩) (by show w.heap.size≤b+1;omega) (.int .i64 ((k:Int)))).setCell (p:=⟨b+1,2,none⟩) (by show w.heap.size≤b+1;omega) (.int .i64 (-1))
            generalize ((World.setCell _ _ _).setCell _ _).setCell _ _=wE at *
            have c0:=cell_of (j:=0) hW rfl
            have c1:=cell_of (j:=1) hW rfl
            have c2:=cell_of (j:=2) hW rfl
            exact bodyPost_ret (v:=.agg #[.int .i64 (74),.int .i64 ((k:Int)),.int .i64 (-1)]) (by simp [results,Try.results9,go_sem,c0,c1,c2]) rfl ⟨by rw [HD.out];rfl,by first | exact hWB | (rw [← HBB.out];exact hWB)⟩
          by_cases h2:(nr:Int) > 4
          · have HD:=Lib.hid (HSZ.out 74 (show sizI np nr lo st nc=74 from if_pos (by omega)) (by decide))
            have r0:W3.cell? ⟨b+1,0,none⟩=some (.int .i64 0):=HY.out.cell rfl
            have r1:W3.cell? ⟨b+1,1,none⟩=some (.int .i64 0):=HY.out.cell rfl
            have r2:W3.cell? ⟨b+1,2,none⟩=some (.int .i64 0):=HY.out.cell rfl
            have g0:W3.frozen? ⟨b+1,0,none⟩=false:=free_of HY.out
            have g1:W3.frozen? ⟨b+1,1,none⟩=false:=free_of HY.out
            have g2:W3.frozen? ⟨b+1,2,none⟩=false:=free_of HY.out
            go_wp2
            have hW:=heap_set (heap_set (heap_set HY.out 0 (.int .i64 (74))) 1 (.int .i64 ((k:Int)))) 2 (.int .i64 (-1))
            have hbs:=HBB.out
            have hWB:=(((bl_tr HBS.out HB3.out).setCell (p:=⟨b+1,0,none⟩) (by show w.heap.size≤b+1;omega) (.int .i64 (74))).setCell (p:=⟨b+1,1,none⟩) (by show w.heap.size≤b+1;omega) (.int .i64 ((k:Int)))).setCell (p:=⟨b+1,2,none⟩) (by show w.heap.size≤b+1;omega) (.int .i64 (-1))
            generalize ((World.setCell _ _ _).setCell _ _).setCell _ _=wE at *
            have c0:=cell_of (j:=0) hW rfl
            have c1:=cell_of (j:=1) hW rfl
            have c2:=cell_of (j:=2) hW rfl
            exact bodyPost_ret (v:=.agg #[.int .i64 (74),.int .i64 ((k:Int)),.int .i64 (-1)]) (by simp [results,Try.results9,go_sem,c0,c1,c2]) rfl ⟨by rw [HD.out];rfl,by first | exact hWB | (rw [← HBB.out];exact hWB)⟩
          by_cases h3:(nc:Int) > 2048
          · have HD:=Lib.hid (HSZ.out 74 (show sizI np nr lo st nc=74 from if_pos (by omega)) (by decide))
            have r0:W3.cell? ⟨b+1,0,none⟩=some (.int .i64 0):=HY.out.cell rfl
            have r1:W3.cell? ⟨b+1,1,none⟩=some (.int .i64 0):=HY.out.cell rfl
            have r2:W3.cell? ⟨b+1,2,none⟩=some (.int .i64 0):=HY.out.cell rfl
            have g0:W3.frozen? ⟨b+1,0,none⟩=false:=free_of HY.out
            have g1:W3.frozen? ⟨b+1,1,none⟩=false:=free_of HY.out
            have g2:W3.frozen? ⟨b+1,2,none⟩=false:=free_of HY.out
            go_wp2
            have hW:=heap_set (heap_set (heap_set HY.out 0 (.int .i64 (74))) 1 (.int .i64 ((k:Int)))) 2 (.int .i64 (-1))
            have hbs:=HBB.out
            have hWB:=(((bl_tr HBS.out HB3.out).setCell (p:=⟨b+1,0,none⟩) (by show w.heap.size≤b+1;omega) (.int .i64 (74))).setCell (p:=⟨b+1,1,none⟩) (by show w.heap.size≤b+1;omega) (.int .i64 ((k:Int)))).setCell (p:=⟨b+1,2,none⟩) (by show w.heap.size≤b+1;omega) (.int .i64 (-1))
            generalize ((World.setCell _ _ _).setCell _ _).setCell _ _=wE at *
            have c0:=cell_of (j:=0) hW rfl
            have c1:=cell_of (j:=1) hW rfl
            have c2:=cell_of (j:=2) hW rfl
            exact bodyPost_ret (v:=.agg #[.int .i64 (74),.int .i64 ((k:Int)),.int .i64 (-1)]) (by simp [results,Try.results9,go_sem,c0,c1,c2]) rfl ⟨by rw [HD.out];rfl,by first | exact hWB | (rw [← HBB.out];exact hWB)⟩
          by_cases h4:lo > 32
          · have HD:=Lib.hid (HSZ.out 74 (show sizI np nr lo st nc=74 from if_pos (by omega)) (by decide))
            have r0:W3.cell? ⟨b+1,0,none⟩=some (.int .i64 0):=HY.out.cell rfl
            have r1:W3.cell? ⟨b+1,1,none⟩=some (.int .i64 0):=HY.out.cell rfl
            have r2:W3.cell? ⟨b+1,2,none⟩=some (.int .i64 0):=HY.out.cell rfl
            have g0:W3.frozen? ⟨b+1,0,none⟩=false:=free_of HY.out
            have g1:W3.frozen? ⟨b+1,1,none⟩=false:=free_of HY.out
            have g2:W3.frozen? ⟨b+1,2,none⟩=false:=free_of HY.out
            go_wp2
            have hW:=heap_set (heap_set (heap_set HY.out 0 (.int .i64 (74))) 1 (.int .i64 ((k:Int)))) 2 (.int .i64 (-1))
            have hbs:=HBB.out
            have hWB:=(((bl_tr HBS.out HB3.out).setCell (p:=⟨b+1,0,none⟩) (by show w.heap.size≤b+1;omega) (.int .i64 (74))).setCell (p:=⟨b+1,1,none⟩) (by show w.heap.size≤b+1;omega) (.int .i64 ((k:Int)))).setCell (p:=⟨b+1,2,none⟩) (by show w.heap.size≤b+1;omega) (.int .i64 (-1))
            generalize ((World.setCell _ _ _).setCell _ _).setCell _ _=wE at *
            have c0:=cell_of (j:=0) hW rfl
            have c1:=cell_of (j:=1) hW rfl
            have c2:=cell_of (j:=2) hW rfl
            exact bodyPost_ret (v:=.agg #[.int .i64 (74),.int .i64 ((k:Int)),.int .i64 (-1)]) (by simp [results,Try.results9,go_sem,c0,c1,c2]) rfl ⟨by rw [HD.out];rfl,by first | exact hWB | (rw [← HBB.out];exact hWB)⟩
          by_cases h5:st > 64
          · have HD:=Lib.hid (HSZ.out 74 (show sizI np nr lo st nc=74 from if_pos (by omega)) (by decide))
            have r0:W3.cell? ⟨b+1,0,none⟩=some (.int .i64 0):=HY.out.cell rfl
            have r1:W3.cell? ⟨b+1,1,none⟩=some (.int .i64 0):=HY.out.cell rfl
            have r2:W3.cell? ⟨b+1,2,none⟩=some (.int .i64 0):=HY.out.cell rfl
            have g0:W3.frozen? ⟨b+1,0,none⟩=false:=free_of HY.out
            have g1:W3.frozen? ⟨b+1,1,none⟩=false:=free_of HY.out
            have g2:W3.frozen? ⟨b+1,2,none⟩=false:=free_of HY.out
            go_wp2
            have hW:=heap_set (heap_set (heap_set HY.out 0 (.int .i64 (74))) 1 (.int .i64 ((k:Int)))) 2 (.int .i64 (-1))
            have hbs:=HBB.out
            have hWB:=(((bl_tr HBS.out HB3.out).setCell (p:=⟨b+1,0,none⟩) (by show w.heap.size≤b+1;omega) (.int .i64 (74))).setCell (p:=⟨b+1,1,none⟩) (by show w.heap.size≤b+1;omega) (.int .i64 ((k:Int)))).setCell (p:=⟨b+1,2,none⟩) (by show w.heap.size≤b+1;omega) (.int .i64 (-1))
            generalize ((World.setCell _ _ _).setCell _ _).setCell _ _=wE at *
            have c0:=cell_of (j:=0) hW rfl
            have c1:=cell_of (j:=1) hW rfl
            have c2:=cell_of (j:=2) hW rfl
            exact bodyPost_ret (v:=.agg #[.int .i64 (74),.int .i64 ((k:Int)),.int .i64 (-1)]) (by simp [results,Try.results9,go_sem,c0,c1,c2]) rfl ⟨by rw [HD.out];rfl,by first | exact hWB | (rw [← HBB.out];exact hWB)⟩
          by_cases h6:lo<0
          · have HD:=Lib.hid (HSZ.out 130 (show sizI np nr lo st nc=130 from by rw [sizI,if_neg (by omega),if_pos (by omega)]) (by decide))
            have r0:W3.cell? ⟨b+1,0,none⟩=some (.int .i64 0):=HY.out.cell rfl
            have r1:W3.cell? ⟨b+1,1,none⟩=some (.int .i64 0):=HY.out.cell rfl
            have r2:W3.cell? ⟨b+1,2,none⟩=some (.int .i64 0):=HY.out.cell rfl
            have g0:W3.frozen? ⟨b+1,0,none⟩=false:=free_of HY.out
            have g1:W3.frozen? ⟨b+1,1,none⟩=false:=free_of HY.out
            have g2:W3.frozen? ⟨b+1,2,none⟩=false:=free_of HY.out
            go_wp2
            have hW:=heap_set (heap_set (heap_set HY.out 0 (.int .i64 (130))) 1 (.int .i64 ((k:Int)))) 2 (.int .i64 (-1))
            have hbs:=HBB.out
            have hWB:=(((bl_tr HBS.out HB3.out).setCell (p:=⟨b+1,0,none⟩) (by show w.heap.size≤b+1;omega) (.int .i64 (130))).setCell (p:=⟨b+1,1,none⟩) (by show w.heap.size≤b+1;omega) (.int .i64 ((k:Int)))).setCell (p:=⟨b+1,2,none⟩) (by show w.heap.size≤b+1;omega) (.int .i64 (-1))
            generalize ((World.setCell _ _ _).setCell _ _).setCell _ _=wE at *
            have c0:=cell_of (j:=0) hW rfl
            have c1:=cell_of (j:=1) hW rfl
            have c2:=cell_of (j:=2) hW rfl
            exact bodyPost_ret (v:=.agg #[.int .i64 (130),.int .i64 ((k:Int)),.int .i64 (-1)]) (by simp [results,Try.results9,go_sem,c0,c1,c2]) rfl ⟨by rw [HD.out];rfl,by first | exact hWB | (rw [← HBB.out];exact hWB)⟩
          by_cases h7:st<0
          · have HD:=Lib.hid (HSZ.out 130 (show sizI np nr lo st nc=130 from by rw [sizI,if_neg (by omega),if_pos (by omega)]) (by decide))
            have r0:W3.cell? ⟨b+1,0,none⟩=some (.int .i64 0):=HY.out.cell rfl
            have r1:W3.cell? ⟨b+1,1,none⟩=some (.int .i64 0):=HY.out.cell rfl
            have r2:W3.cell? ⟨b+1,2,none⟩=some (.int .i64 0):=HY.out.cell rfl
            have g0:W3.frozen? ⟨b+1,0,none⟩=false:=free_of HY.out
            have g1:W3.frozen? ⟨b+1,1,none⟩=false:=free_of HY.out
            have g2:W3.frozen? ⟨b+1,2,none⟩=false:=free_of HY.out
            go_wp2
            have hW:=heap_set (heap_set (heap_set HY.out 0 (.int .i64 (130))) 1 (.int .i64 ((k:Int)))) 2 (.int .i64 (-1))
            have hbs:=HBB.out
            have hWB:=(((bl_tr HBS.out HB3.out).setCell (p:=⟨b+1,0,none⟩) (by show w.heap.size≤b+1;omega) (.int .i64 (130))).setCell (p:=⟨b+1,1,none⟩) (by show w.heap.size≤b+1;omega) (.int .i64 ((k:Int)))).setCell (p:=⟨b+1,2,none⟩) (by show w.heap.size≤b+1;omega) (.int .i64 (-1))
            generalize ((World.setCell _ _ _).setCell _ _).setCell _ _=wE at *
            have c0:=cell_of (j:=0) hW rfl
            have c1:=cell_of (j:=1) hW rfl
            have c2:=cell_of (j:=2) hW rfl
            exact bodyPost_ret (v:=.agg #[.int .i64 (130),.int .i64 ((k:Int)),.int .i64 (-1)]) (by simp [results,Try.results9,go_sem,c0,c1,c2]) rfl ⟨by rw [HD.out];rfl,by first | exact hWB | (rw [← HBB.out];exact hWB)⟩
          by_cases h8:nc=0
          · have HD:=Lib.hid (HSZ.out 132 (show sizI np nr lo st nc=132 from by rw [sizI,if_neg (by omega),if_neg (by omega),if_pos h8]) (by decide))
            have h9:((nc:Int) == 0)=true:=by simp [h8]
            clear h8
            have r0:W3.cell? ⟨b+1,0,none⟩=some (.int .i64 0):=HY.out.cell rfl
            have r1:W3.cell? ⟨b+1,1,none⟩=some (.int .i64 0):=HY.out.cell rfl
            have r2:W3.cell? ⟨b+1,2,none⟩=some (.int .i64 0):=HY.out.cell rfl
            have g0:W3.frozen? ⟨b+1,0,none⟩=false:=free_of HY.out
            have g1:W3.frozen? ⟨b+1,1,none⟩=false:=free_of HY.out
            have g2:W3.frozen? ⟨b+1,2,none⟩=false:=free_of HY.out
            go_wp2
            have hW:=heap_set (heap_set (heap_set HY.out 0 (.int .i64 (132))) 1 (.int .i64 ((k:Int)))) 2 (.int .i64 (-1))
            have hbs:=HBB.out
            have hWB:=(((bl_tr HBS.out HB3.out).setCell (p:=⟨b+1,0,none⟩) (by show w.heap.size≤b+1;omega) (.int .i64 (132))).setCell (p:=⟨b+1,1,none⟩) (by show w.heap.size≤b+1;omega) (.int .i64 ((k:Int)))).setCell (p:=⟨b+1,2,none⟩) (by show w.heap.size≤b+1;omega) (.int .i64 (-1))
            generalize ((World.setCell _ _ _).setCell _ _).setCell _ _=wE at *
            have c0:=cell_of (j:=0) hW rfl
            have c1:=cell_of (j:=1) hW rfl
            have c2:=cell_of (j:=2) hW rfl
            exact bodyPost_ret (v:=.agg #[.int .i64 (132),.int .i64 ((k:Int)),.int .i64 (-1)]) (by simp [results,Try.results9,go_sem,c0,c1,c2]) rfl ⟨by rw [HD.out];rfl,by first | exact hWB | (rw [← HBB.out];exact hWB)⟩
          have HSC:=Lib.hid (HS0.out (show sizI np nr lo st nc=0 from by rw [sizI,if_neg (by omega),if_neg (by omega),if_neg (by omega)]))
          have h9:((nc:Int) == 0)=false:=eqb (by omega)
          clear HSZ HS0
          go_wp2_with fail
          clear h1 h2 h3 h4 h5 h6 h7 h8 h9 a1 a2 a3 a4 a5
          go_loopw [7] (fun i wr=>∃ a:Nat,a≤nc∧i=.int .i64 a∧Hid (Below W3.heap.size W3 wr)∧Hid (∀ c,c<a→decide (insE ng na nh fs k nc code c ≠ 0)=false)) (fun i _=>nc - (intOf i).toNat)
          case atStart=>exact ⟨0,Nat.zero_le _,rfl,Lib.hid (Below.refl _ _),Lib.hid (fun j h=>absurd h (by omega))⟩
          case round =>
            obtain ⟨a,ha,rfl,HB5,HT5⟩:=hrel
            by_cases halt:a<nc
            · have hk1:a<code.length:=by rw [HNC.out];exact halt
              have HBW:=Lib.hid (bl_tr (bl_tr HBS.out HB3.out) HB5.out)
              obtain ⟨g2,o2,rfl,x0,x1⟩:=HCD.out a hk1
              have c0:=below_cle HBW.out _ _ x0
              have c1:=below_cle HBW.out _ _ x1
              unfold wC at c0 c1
              have HE:=Lib.hid (show insE ng na nh fs k nc code a=if insI ng na nh fs k code[a].1 code[a].2 ≠ 0 then insI ng na nh fs k code[a].1 code[a].2 else if a+1=nc∧code[a].1 ≠ 43∧code[a].1 ≠ 46 then 131 else 0 from by unfold insE;rw [getA_at hk1])
              clear x0 x1
              generalize code[a].1=op at *
              generalize code[a].2=av at *
              clear hk1
              have hai:(a:Int)<(nc:Int):=by omega
              have HJ0:=Lib.hid ((HJ0.out.le HB3.out).le HB5.out)
              have HW3:=Lib.hid (HW3.out.le HB5.out)
              have HY:=Lib.hid (HY.out.le HB5.out)
              obtain ⟨ev,hev⟩:∃ ev,insI ng na nh fs k op av=ev:=⟨_,rfl⟩
              rw [hev] at HE
              have HC:=Lib.hid (fun d os=>show Calls Try.prog 12 #[moV qg ng cg qa na ca qh nh ch (some ⟨g,o,none⟩) nf cf,.int .i64 k,inV op av] (grow (redrawn wr d) os) (fun e w''=>e=.returned (.int .i64 ev)∧∃ p:Regrown,w''=grow (redrawn wr p.d) p.os) from Calls.regrown_of (hev ▸ HI.out _ (bl_tr HBW.out (below_regrown wr d os)) (k:Int) op av))
              clear hev
              go_upto_region 22 with (fail)
              have m0:∀ d os,(grow (redrawn wr d) os).cell? ⟨b,0,none⟩=some (.slice qg ng cg):=cell_regrown (HJ0.out.cell rfl)
              have m1:∀ d os,(grow (redrawn wr d) os).cell? ⟨b,1,none⟩=some (.slice qa na ca):=cell_regrown (HJ0.out.cell rfl)
              have m2:∀ d os,(grow (redrawn wr d) os).cell? ⟨b,2,none⟩=some (.slice qh nh ch):=cell_regrown (HJ0.out.cell rfl)
              have m3:∀ d os,(grow (redrawn wr d) os).cell? ⟨b,3,none⟩=some (.slice (some ⟨g,o,none⟩) nf cf):=cell_regrown (HJ0.out.cell rfl)
              have f5:∀ d os,(grow (redrawn wr d) os).cell? ⟨bf,5,none⟩=some (.slice (some ⟨g2,o2,none⟩) nc cc):=cell_regrown (HW3.out.cell rfl)
              have y0:=cell_regrown c0
              have y1:=cell_regrown c1
              refine wp_region_quiet_below (by kernel_rfl) (by kernel_rfl) ?_
              iterate 7 (go_big_quiet_step (fail))
              go_big_quiet_step (exact HC.out _ _)
              go_big_quiet_step (fail)
              refine wpQuiet_nil ?_
              intro _ hw'
              obtain ⟨⟨dq,osq⟩,hw''⟩:=hw'
              subst hw''
              have HB6:=Lib.hid (bl_tr HB5.out (below_regrown wr dq osq))
              have HBW:=Lib.hid (bl_tr HBW.out (below_regrown wr dq osq))
              have HY:=Lib.hid (HY.out.le (below_regrown wr dq osq))
              have f5:=f5 dq osq
              have c0:=y0 dq osq
              clear m0 m1 m2 m3 y0 y1 c1 HC
              generalize grow (redrawn wr dq) osq=V at *
              have hmm:=HMC.out
              by_cases hz:ev=0
              · subst hz
                rw [if_neg (by simp)] at HE
                have hne:((0:Int) != 0)=false:=by decide
                have hne2:((0:Int) == 0)=true:=by decide
                by_cases hL:a+1=nc
                · have hl:((a:Int) == (nc:Int) - 1)=true:=by simp;omega
                  have hw:wrap64 ((nc:Int) - 1)=(nc:Int) - 1:=by unfold wrap64;omega
                  by_cases hG:op=43
                  · have HN:=Lib.hid (step_no HT5.out (show decide (insE ng na nh fs k nc code a ≠ 0)=false from by rw [HE.out,if_neg (fun h=>h.2.1 hG)];rfl))
                    have hg:(op != 43)=false:=by simp [hG]
                    clear hG hL
                    go_wp2_with fail
                    clear hw hl
                    exact ⟨⟨a+1,by omega,by go_num,HB6,HN⟩,by simp [intOf];omega⟩
                  · by_cases hG2:op=46
                    · have HN:=Lib.hid (step_no HT5.out (show decide (insE ng na nh fs k nc code a ≠ 0)=false from by rw [HE.out,if_neg (fun h=>h.2.2 hG2)];rfl))
                      have hg:(op != 43)=true:=by simp [hG2]
                      have hg2:(op != 46)=false:=by simp [hG2]
                      clear hG hG2 hL
                      go_wp2_with fail
                      clear hw hl
                      exact ⟨⟨a+1,by omega,by go_num,HB6,HN⟩,by simp [intOf];omega⟩
                    · have HD:=Lib.hid (HRH.out (a:Int) 131 (HSC.out.trans (codE_hit HT5.out halt (by rw [HE.out,if_pos ⟨hL,hG,hG2⟩]) (by decide))) (by decide))
                      have hg:(op != 43)=true:=by simp [hG]
                      have hg2:(op != 46)=true:=by simp [hG2]
                      clear hG hG2 hL
                      have r0:V.cell? ⟨b+1,0,none⟩=some (.int .i64 0):=HY.out.cell rfl
                      have r1:V.cell? ⟨b+1,1,none⟩=some (.int .i64 0):=HY.out.cell rfl
                      have r2:V.cell? ⟨b+1,2,none⟩=some (.int .i64 0):=HY.out.cell rfl
                      have g0:V.frozen? ⟨b+1,0,none⟩=false:=free_of HY.out
                      have g1:V.frozen? ⟨b+1,1,none⟩=false:=free_of HY.out
                      have g2:V.frozen? ⟨b+1,2,none⟩=false:=free_of HY.out
                      go_wp2
                      have hW:=heap_set (heap_set (heap_set HY.out 0 (.int .i64 (131))) 1 (.int .i64 ((k:Int)))) 2 (.int .i64 ((a:Int)))
                      have hbs:=HBB.out
                      have hWB:=(((HBW.out).setCell (p:=⟨b+1,0,none⟩) (by show w.heap.size≤b+1;omega) (.int .i64 (131))).setCell (p:=⟨b+1,1,none⟩) (by show w.heap.size≤b+1;omega) (.int .i64 ((k:Int)))).setCell (p:=⟨b+1,2,none⟩) (by show w.heap.size≤b+1;omega) (.int .i64 ((a:Int)))
                      generalize ((World.setCell _ _ _).setCell _ _).setCell _ _=wE at *
                      have c0:=cell_of (j:=0) hW rfl
                      have c1:=cell_of (j:=1) hW rfl
                      have c2:=cell_of (j:=2) hW rfl
                      exact bodyPost_ret (v:=.agg #[.int .i64 (131),.int .i64 ((k:Int)),.int .i64 ((a:Int))]) (by simp [results,Try.results9,go_sem,c0,c1,c2]) rfl ⟨by rw [HD.out];rfl,by first | exact hWB | (rw [← HBB.out];exact hWB)⟩
                · have hl:((a:Int) == (nc:Int) - 1)=false:=eqb (by omega)
                  have hw:wrap64 ((nc:Int) - 1)=(nc:Int) - 1:=by unfold wrap64;omega
                  have HN:=Lib.hid (step_no HT5.out (show decide (insE ng na nh fs k nc code a ≠ 0)=false from by rw [HE.out,if_neg (fun h=>hL h.1)];rfl))
                  clear hL
                  go_wp2_with fail
                  clear hw hl
                  exact ⟨⟨a+1,by omega,by go_num,HB6,HN⟩,by simp [intOf];omega⟩
              · have hne:(ev != 0)=true:=by simpa using hz
                have hne2:(ev == 0)=false:=by simpa using hz
                have HD:=Lib.hid (HRH.out (a:Int) ev (HSC.out.trans (codE_hit HT5.out halt (by rw [HE.out,if_pos hz]) hz)) hz)
                clear hz
                have r0:V.cell? ⟨b+1,0,none⟩=some (.int .i64 0):=HY.out.cell rfl
                have r1:V.cell? ⟨b+1,1,none⟩=some (.int .i64 0):=HY.out.cell rfl
                have r2:V.cell? ⟨b+1,2,none⟩=some (.int .i64 0):=HY.out.cell rfl
                have g0:V.frozen? ⟨b+1,0,none⟩=false:=free_of HY.out
                have g1:V.frozen? ⟨b+1,1,none⟩=false:=free_of HY.out
                have g2:V.frozen? ⟨b+1,2,none⟩=false:=free_of HY.out
                go_wp2
                have hW:=heap_set (heap_set (heap_set HY.out 0 (.int .i64 (ev))) 1 (.int .i64 ((k:Int)))) 2 (.int .i64 ((a:Int)))
                have hbs:=HBB.out
                have hWB:=(((HBW.out).setCell (p:=⟨b+1,0,none⟩) (by show w.heap.size≤b+1;omega) (.int .i64 (ev))).setCell (p:=⟨b+1,1,none⟩) (by show w.heap.size≤b+1;omega) (.int .i64 ((k:Int)))).setCell (p:=⟨b+1,2,none⟩) (by show w.heap.size≤b+1;omega) (.int .i64 ((a:Int)))
                generalize ((World.setCell _ _ _).setCell _ _).setCell _ _=wE at *
                have c0:=cell_of (j:=0) hW rfl
                have c1:=cell_of (j:=1) hW rfl
                have c2:=cell_of (j:=2) hW rfl
                exact bodyPost_ret (v:=.agg #[.int .i64 (ev),.int .i64 ((k:Int)),.int .i64 ((a:Int))]) (by simp [results,Try.results9,go_sem,c0,c1,c2]) rfl ⟨by rw [HD.out];rfl,by first | exact hWB | (rw [← HBB.out];exact hWB)⟩
            · obtain rfl:a=nc:=by omega
              have HS:=Lib.hid (step_no HT.out (show decide ((fnE ng na nh fs k).2 ≠ 0)=false from by rw [HSC.out,codE_no HT5.out];rfl))
              have HB6:=Lib.hid (bl_tr HB3.out HB5.out)
              clear HSC HRH HT5
              go_wp2_with fail
              exact ⟨⟨k+1,by omega,by go_num,HB6,HS⟩,by simp [intOf];omega⟩
        · have HD:=Lib.hid (HR.out.symm.trans (chk_none HTB2.out (fun j hj=>HT.out j (by have:=HN.out;omega))))
          have HY:=Lib.hid (HY.out.le HB.out)
          have r0:wr.cell? ⟨b+1,0,none⟩=some (.int .i64 0):=HY.out.cell rfl
          have r1:wr.cell? ⟨b+1,1,none⟩=some (.int .i64 0):=HY.out.cell rfl
          have r2:wr.cell? ⟨b+1,2,none⟩=some (.int .i64 0):=HY.out.cell rfl
          have g0:wr.frozen? ⟨b+1,0,none⟩=false:=free_of HY.out
          have g1:wr.frozen? ⟨b+1,1,none⟩=false:=free_of HY.out
          have g2:wr.frozen? ⟨b+1,2,none⟩=false:=free_of HY.out
          go_wp2
          have hW:=heap_set (heap_set (heap_set HY.out 0 (.int .i64 (0))) 1 (.int .i64 (0))) 2 (.int .i64 (0))
          have hbs:=HBB.out
          have hWB:=(((bl_tr HBS.out HB.out).setCell (p:=⟨b+1,0,none⟩) (by show w.heap.size≤b+1;omega) (.int .i64 (0))).setCell (p:=⟨b+1,1,none⟩) (by show w.heap.size≤b+1;omega) (.int .i64 (0))).setCell (p:=⟨b+1,2,none⟩) (by show w.heap.size≤b+1;omega) (.int .i64 (0))
          generalize ((World.setCell _ _ _).setCell _ _).setCell _ _=wE at *
          have c0:=cell_of (j:=0) hW rfl
          have c1:=cell_of (j:=1) hW rfl
          have c2:=cell_of (j:=2) hW rfl
          exact bodyPost_ret (v:=.agg #[.int .i64 (0),.int .i64 (0),.int .i64 (0)]) (by simp [results,Try.results9,go_sem,c0,c1,c2]) rfl ⟨by rw [HD.out];rfl,by first | exact hWB | (rw [← HBB.out];exact hWB)⟩
end
end Go.Proofs.Ythjkbfamkogoiaa
namespace Go.Proofs.Ythjkbfamkogoiaa
open Go Go.RowKit Go.Proofs.Mm Go.Sort
theorem eqFlt (a b c d e f:Int) (w:World):(Op.equalIn 10000 30 (.agg #[.int .i64 a,.int .i64 b,.int .i64 c]) (.agg #[.int .i64 d,.int .i64 e,.int .i64 f])).run Try.prog w=.ok (a == d && b == e && c == f) w:=by
  have u3:=Try.underlying3
  have u28:=Try.underlying28
  have hS:Try.prog.underlying 30=some (.struct (Try.prog.fieldsOf 30)):=by kernel_rfl
  have hp:Try.prog.stoodInHeld 30=false:=by kernel_rfl
  rw [show (10000:Nat)=9999+1 from rfl,run_equalIn_agg w 9999 30 _ _ hS hp]
  simp only [Program.fieldsOf,Try.underlying30]
  go_simp
  by_cases h1:a=d <;> by_cases h2:b=e <;> by_cases h3:c=f <;> simp [h1,h2,h3]
theorem eqFlt' (a b c d e f:Int) (w:World):(binOp .eql 30 (.agg #[.int .i64 a,.int .i64 b,.int .i64 c]) (.agg #[.int .i64 d,.int .i64 e,.int .i64 f])).run Try.prog w=.ok (.bool (a == d && b == e && c == f)) w:=by
  rw [run_eql_struct,eqFlt];rfl
theorem neFlt' (a b c d e f:Int) (w:World):(binOp .neq 30 (.agg #[.int .i64 a,.int .i64 b,.int .i64 c]) (.agg #[.int .i64 d,.int .i64 e,.int .i64 f])).run Try.prog w=.ok (.bool (!(a == d && b == e && c == f))) w:=by
  rw [run_neq_struct,eqFlt];rfl
attribute [local go_sem] eqFlt' neFlt'
structure BxM (w:World) (m0 m1 m2 m3:Value) (W:World):Prop where
  bl:Below w.heap.size w W
  m:InB W w.heap.size #[m0,m1,m2,m3] 26
theorem BxM.new (w:World) (m0 m1 m2 m3:Value):BxM w m0 m1 m2 m3 (w.alloc (.cells #[m0,m1,m2,m3] 26)):=⟨bl_al (Below.refl _ w) _,InB.new _ _ _⟩
theorem BxM.le {w:World} {m0 m1 m2 m3:Value} {W V:World} (h:BxM w m0 m1 m2 m3 W) (hb:Below W.heap.size W V):BxM w m0 m1 m2 m3 V:=⟨bl_tr h.bl hb,h.m.le hb⟩
set_option maxRecDepth 100000 in
set_option maxHeartbeats 4000000 in
theorem checks_law {m:MoM} {v:Value} {w:World} (h:MoR false (wC w) v m) :
    Calls Try.prog 3 #[v] w fun e w'=>e=.returned (.bool true)∧Below w.heap.size w w':=by
  have HL:=Lib.hid (fun W (hb:Below w.heap.size w W)=>lentModule_any (h.le (below_cle hb)) (m:=fun _=>none) (show Has W (fun _=>none) from fun k o e=>by cases e))
  have HI:=Lib.hid (fun W (hb:Below w.heap.size w W)=>show MoR false (wC W) v m from h.le (below_cle hb))
  obtain ⟨q1,c1,q2,c2,q3,c3,q4,c4,rfl,-,-,-,hl2,-,hl4⟩:=mo_open h
  clear h
  obtain ⟨n1,hn1⟩:∃ n,m.globals.length=n:=⟨_,rfl⟩
  obtain ⟨n2,hn2⟩:∃ n,m.arrays.length=n:=⟨_,rfl⟩
  obtain ⟨n3,hn3⟩:∃ n,m.channels.length=n:=⟨_,rfl⟩
  obtain ⟨n4,hn4⟩:∃ n,m.funcs.length=n:=⟨_,rfl⟩
  rw [hn2] at hl2
  rw [hn4] at hl4
  have HL2:=Lib.hid hl2
  have HL4:=Lib.hid hl4
  clear hl2 hl4
  have H1:=Lib.hid hn1
  have H2:=Lib.hid hn2
  have H3:=Lib.hid hn3
  have H4:=Lib.hid hn4
  rw [hn1,hn2,hn3,hn4] at HL HI ⊢
  clear hn1 hn2 hn3 hn4
  go_enter Try.func3,Try.ntmps3
  go_wp2_with fail
  obtain ⟨W0,hW0⟩:∃ W0,w.alloc (.cells #[.slice q1 n1 c1,.slice q2 n2 c2,.slice q3 n3 c3,.slice q4 n4 c4] 26)=W0:=⟨_,rfl⟩
  have HX0:=Lib.hid (show BxM w (.slice q1 n1 c1) (.slice q2 n2 c2) (.slice q3 n3 c3) (.slice q4 n4 c4) W0 by rw [← hW0];exact BxM.new _ _ _ _ _)
  rw [hW0]
  clear hW0
  go_at_call 7
  refine (HL.out W0 HX0.out.bl).mono ?_
  rintro e w1 ⟨v',m',rfl,hb1,hmo,hH,hM⟩
  have hM1:MoR true (wC w1) v' m:=hM.le (has_cle hH)
  have HX1:=Lib.hid (HX0.out.le hb1)
  obtain ⟨p1,d1,p2,d2,p3,d3,p4,d4,rfl,-⟩:=mo_open hM1
  rw [H1.out,H2.out,H3.out,H4.out] at hM1 ⊢
  have HM1:=Lib.hid (fun W (hb:Below w1.heap.size w1 W)=>show MoR true (wC W) (moV p1 n1 d1 p2 n2 d2 p3 n3 d3 p4 n4 d4) m from hM1.le (below_cle hb))
  clear hM hM1 hH hmo hb1 HX0 HL
  go_wp2_with fail
  obtain ⟨W1,hW1⟩:∃ W1,w1.alloc (.cells #[.slice p1 n1 d1,.slice p2 n2 d2,.slice p3 n3 d3,.slice p4 n4 d4] 26)=W1:=⟨_,rfl⟩
  have hb:Below w1.heap.size w1 W1:=by rw [← hW1];exact bl_al (Below.refl _ _) _
  have hX:=HX1.out.le hb
  have hY:InB W1 w1.heap.size #[.slice p1 n1 d1,.slice p2 n2 d2,.slice p3 n3 d3,.slice p4 n4 d4] 26:=by rw [← hW1];exact InB.new _ _ _
  have HM:=Lib.hid (fun W (h:Below W1.heap.size W1 W)=>HM1.out W (bl_tr hb h))
  have HN:=Lib.hid (fun W (h:Below W1.heap.size W1 W)=>HI.out W (bl_tr hX.bl h))
  clear hb HX1 HM1
  try rw [hW1]
  clear hW1
  obtain ⟨x,y,z,hx⟩:∃ x y z,chkE n1 n2 n3 m.arrays m.funcs=(x,y,z):=⟨_,_,_,rfl⟩
  have k0:=fun d os=>cell_regrown (hX.m.cell (j:=0) rfl) d os
  have k1:=fun d os=>cell_regrown (hX.m.cell (j:=1) rfl) d os
  have k2:=fun d os=>cell_regrown (hX.m.cell (j:=2) rfl) d os
  have k3:=fun d os=>cell_regrown (hX.m.cell (j:=3) rfl) d os
  have l0:=fun d os=>cell_regrown (hY.cell (j:=0) rfl) d os
  have l1:=fun d os=>cell_regrown (hY.cell (j:=1) rfl) d os
  have l2:=fun d os=>cell_regrown (hY.cell (j:=2) rfl) d os
  have l3:=fun d os=>cell_regrown (hY.cell (j:=3) rfl) d os
  have b1:(x == x)=true:=by simp
  have b2:(y == y)=true:=by simp
  have b3:(z == z)=true:=by simp
  have FM:∀ d os,ArAt (wC (grow (redrawn W1 d) os)) p2 m.arrays∧FnAt true (wC (grow (redrawn W1 d) os)) p4 m.funcs:=fun d os=>mo_parts (HM.out _ (below_regrown W1 d os))
  have FN:∀ d os,ArAt (wC (grow (redrawn W1 d) os)) q2 m.arrays∧FnAt false (wC (grow (redrawn W1 d) os)) q4 m.funcs:=fun d os=>mo_parts (HN.out _ (below_regrown W1 d os))
  have e1:∀ d os,Calls Try.prog 8 #[moV p1 n1 d1 p2 n2 d2 p3 n3 d3 p4 n4 d4] (grow (redrawn W1 d) os) fun e w''=>e=.returned (.agg #[.int .i64 x,.int .i64 y,.int .i64 z])∧∃ p:Regrown,w''=grow (redrawn W1 p.d) p.os:=fun d os=>Calls.regrown_of (by
    have h:=Check_any p1 n1 d1 p2 n2 d2 p3 n3 d3 p4 n4 d4 H4.out H2.out HL2.out HL4.out (FM d os).2 (FM d os).1
    rw [hx] at h
    exact h)
  have e2:∀ d os,Calls Try.prog 9 #[moV q1 n1 c1 q2 n2 c2 q3 n3 c3 q4 n4 c4] (grow (redrawn W1 d) os) fun e w''=>e=.returned (.agg #[.int .i64 x,.int .i64 y,.int .i64 z])∧∃ p:Regrown,w''=grow (redrawn W1 p.d) p.os:=fun d os=>Calls.regrown_of (by
    have h:=refCheck_any q1 n1 c1 q2 n2 c2 q3 n3 c3 q4 n4 c4 H4.out H2.out HL2.out HL4.out (FN d os).2 (FN d os).1
    rw [hx] at h
    exact h)
  have e5:∀ d os,Calls Try.prog 10 #[moV p1 n1 d1 p2 n2 d2 p3 n3 d3 p4 n4 d4,moV q1 n1 c1 q2 n2 c2 q3 n3 c3 q4 n4 c4] (grow (redrawn W1 d) os) fun e w''=>e=.returned (.bool true)∧∃ p:Regrown,w''=grow (redrawn W1 p.d) p.os:=fun d os=>Calls.regrown_of (keptModule_true (HM.out _ (below_regrown W1 d os)) (HN.out _ (below_regrown W1 d os)))
  have HB:=Lib.hid hX.bl
  have HC1:=Lib.hid e1
  have HC2:=Lib.hid e2
  have HC5:=Lib.hid e5
  clear hx hX hY HM HN FM FN e1 e2 e5 H1 H2 H3 H4 HI HL2 HL4
  refine wp_region_quiet_below (by kernel_rfl) (by kernel_rfl) ?_
  go_big_quiet_step (fail)
  go_big_quiet_step (exact HC1.out _ _)
  go_big_quiet_step (fail)
  go_big_quiet_step (exact HC2.out _ _)
  iterate 4 (go_big_quiet_step (fail))
  go_big_quiet_step (exact HC5.out _ _)
  iterate 2 (go_big_quiet_step (fail))
  refine wpQuiet_nil ?_
  intro _ hw'
  obtain ⟨⟨dq,osq⟩,hw''⟩:=hw'
  subst hw''
  have HV:=Lib.hid (bl_tr HB.out (below_regrown W1 dq osq))
  clear k0 k1 k2 k3 l0 l1 l2 l3 HC1 HC2 HC5
  generalize grow (redrawn W1 dq) osq=V at HV ⊢
  go_wp2
  go_ret
  exact ⟨rfl,HV.out⟩
end Go.Proofs.Ythjkbfamkogoiaa
