/- ImageKnown: what the known bytes and modules come to. ImageKnown: the law's walk. -/
import Derived.Test.YtbfkgcapkffecaaImKnownPR8
import Derived.Laws.OwnMore
namespace Go.Proofs.Ytbfkgcapkffecaa
open Go Go.RowKit Go.Proofs.Mm Go.Sort
def emM:MoM:=⟨[],[],[],[]⟩
def emL:List Nat:=[76,86,82,1,0,0,0,0]
theorem moF_em:moF emM=emL:=by simp [moF,bdF,listF,headF,emM,putU_small,emL]
theorem imF_em:imF emM=emL++sealF emL:=by unfold imF;rw [moF_em]
theorem em_ok:moOk emM=true:=rfl
theorem em_len:(imF emM).length=16:=by rw [imF_len,moF_em];rfl
theorem em_WC:WC emM:=⟨em_ok,by rw [em_len];omega⟩
theorem known_15:errR ((emL++sealF emL).take 15)=121:=by decide +kernel
theorem known_nil:errR []=120:=by decide +kernel
theorem known_12:errR [76,86,82,1,0,0,0,0,0,0,0,0]=121:=by decide +kernel
theorem no_of_err {d:List Nat} (h:errI d ≠ 0):∀ mo,¬ imgOf d mo:=fun _ k=>h k.1
theorem no_12:∀ mo,¬ imgOf [76,86,82,1,0,0,0,0,0,0,0,0] mo:=no_of_err (by decide +kernel)
theorem no_nil:∀ mo,¬ imgOf [] mo:=no_of_err (by decide +kernel)
theorem no_15:∀ mo,¬ imgOf ((emL++sealF emL).take 15) mo:=no_of_err (by decide +kernel)
theorem errI_seal {l:List Nat} (h4:l.take 4=headF) (hl4:4≤l.length) (hl:l.length≤262136):errI (l++sealF l)=0∧bodyI (l++sealF l)=l.drop 4:=by
  have hlen:(l++sealF l).length=l.length+8:=by rw [List.length_append,sealF_len]
  refine ⟨?_,?_⟩
  · unfold errI
    rw [if_neg (by omega),if_neg (by
      rintro (h | h)
      · omega
      · exact h (by rw [List.take_append_of_le_length hl4];exact h4)),hlen,Nat.add_sub_cancel,List.drop_left,List.take_left,if_pos rfl]
  · unfold bodyI
    rw [hlen,Nat.add_sub_cancel,List.take_left]
theorem errR_seal {l:List Nat} (h4:l.take 4=headF) (hl4:4≤l.length) (hl:l.length≤262136):errR (l++sealF l)=120:=by unfold errR;rw [if_pos (errI_seal h4 hl4 hl).1]
theorem formL_bd:formL=headF++bdF gvM:=by rw [← moF_gv];rfl
theorem no_more:∀ mo,¬ imgOf ((formL++[0])++sealF (formL++[0])) mo:=by
  intro mo h
  have h2:=h.2
  rw [(errI_seal (l:=formL++[0]) (by decide) (by decide) (by decide)).2,formL_bd,List.append_assoc,List.drop_left' (show headF.length=4 from rfl)] at h2
  rw [rt_mo gvM [0] (moP_of gv_W gv_ok)] at h2
  injection h2 with h2
  injection h2 with _ h2
  cases h2
theorem no_less:∀ mo,¬ imgOf ((formL.take 20)++sealF (formL.take 20)) mo:=by
  intro mo h
  obtain ⟨hP,he,_⟩:=img_is h
  unfold imF at he
  have h1:=(app_len he (by rw [sealF_len,sealF_len])).1
  have h2:formL=moF mo++[46]:=by rw [h1];decide
  rw [formL_bd] at h2
  unfold moF at h2
  rw [List.append_assoc] at h2
  have h3:=List.append_cancel_left h2
  have r1:=rt_mo gvM [] (moP_of gv_W gv_ok)
  rw [List.append_nil,h3,rt_mo mo [46] hP] at r1
  injection r1 with r1
  injection r1 with _ r1
  cases r1
def lastL:List Nat:=[76,86,82,1,255,255,255,255,255,255,255,255,255,1]
theorem putU_max:putU 18446744073709551615=[255,255,255,255,255,255,255,255,255,1]:=by
  simp [putU_big,putU_small]
theorem no_last:∀ mo,¬ imgOf (lastL++sealF lastL) mo:=by
  intro mo h
  have h2:=h.2
  rw [(errI_seal (l:=lastL) (by decide) (by decide) (by decide)).2,show lastL.drop 4=putU 18446744073709551615++[] from by rw [putU_max];rfl] at h2
  have h3:rdList rdLab (putU 18446744073709551615++[])=none:=by
    unfold rdList
    rw [rdU_put (by decide) []]
    simp only
    rw [show (18446744073709551615:Nat)=18446744073709551614+1 from rfl,rdN]
    have:rdLab []=none:=by decide
    rw [this]
  unfold rdMo at h2
  rw [h3] at h2
  cases h2
def bigM (n:Nat):MoM:=⟨List.replicate n 0,[],[],[]⟩
theorem lab_zeros:∀ n:Nat,((List.replicate n (0:Int)).flatMap labF).length=n
  | 0=>rfl
  | n+1=>by
    rw [List.replicate_succ,List.flatMap_cons,List.length_append,lab_zeros n,show labF 0=[0] from by unfold labF;exact putU_small (by decide)]
    simp;omega
theorem big_len (n:Nat):(imF (bigM n)).length=(putU n).length+n+15:=by
  rw [imF_len]
  have e:moF (bigM n)=headF++((putU n++(List.replicate n (0:Int)).flatMap labF)++[0,0,0]):=by
    simp [moF,bdF,listF,bigM,putU_small]
  rw [e,List.length_append,List.length_append,List.length_append,lab_zeros]
  simp [headF]
  omega
theorem putU_three {n:Nat} (h1:16384≤n) (h2:n<2097152):(putU n).length=3:=by
  rw [putU_big (by omega),putU_big (by omega),putU_small (by omega)];rfl
theorem big_ok (n:Nat):moOk (bigM n)=true:=rfl
theorem big_W (n:Nat) (h:n<1000000):moW (bigM n):=by
  refine ⟨⟨by simp [bigM];omega,?_⟩,⟨by simp [bigM],by simp [bigM]⟩,⟨by simp [bigM],by simp [bigM]⟩,⟨by simp [bigM],by simp [bigM]⟩⟩
  intro x hx
  rw [List.eq_of_mem_replicate hx]
  exact ⟨by omega,by omega⟩
theorem enc_zeros:∀ n:Nat,Enc laR (List.replicate n (Value.int .u64 0)) (List.replicate n 0)
  | 0=>rfl
  | n+1=>⟨[.int .u64 0],List.replicate n (.int .u64 0),rfl,rfl,enc_zeros n⟩
theorem mk_labels (n:Nat) (hn:n≤1000000):∃ Z:Array Value,(∀ w:World,(Instr.makeSlice 22 (.int .i64 (n:Int)) (.int .i64 (n:Int))).run Try.prog w=.ok (.slice (some ⟨w.heap.size,0,none⟩) n n) (w.alloc (.cells Z 53)))∧Z.toList=List.replicate n (.int .u64 0):=by
  obtain ⟨i,hi,hz,hs,hb⟩:=infoL
  refine ⟨madeCells #[.int .u64 0] n,fun w=>?_,toList_madeCells_one _ _⟩
  have:=run_makeSlice (P:=Try.prog) w 22 53 i (.int .u64 0) und_L hi hz .i64 .i64 (n:Int) (n:Int) (by omega) (Int.le_refl _) (by rw [hs];omega) (by rw [hb];omega) (by omega)
  rw [hs,Nat.mul_one] at this
  simpa [Value.cells] using this
theorem mk_bytes (n:Nat) (hn:n≤1000000):∃ Z:Array Value,(∀ w:World,(Instr.makeSlice 28 (.int .i64 (n:Int)) (.int .i64 (n:Int))).run Try.prog w=.ok (.slice (some ⟨w.heap.size,0,none⟩) n n) (w.alloc (.cells Z 5)))∧Z.toList=bv (List.replicate n 0):=by
  obtain ⟨i,hi,hz,hs,hb⟩:=info5
  refine ⟨madeCells #[.int .u8 0] n,fun w=>?_,by rw [toList_madeCells_one];simp [bv]⟩
  have:=run_makeSlice (P:=Try.prog) w 28 5 i (.int .u8 0) Try.underlying28 hi hz .i64 .i64 (n:Int) (n:Int) (by omega) (Int.le_refl _) (by rw [hs];omega) (by rw [hb];omega) (by omega)
  rw [hs,Nat.mul_one] at this
  simpa [Value.cells] using this
section
variable {w:World}
theorem big_MoR {n:Nat} (hn:n≤1000000) {Z:Array Value} (hZ:Z.toList=List.replicate n (.int .u64 0)) {g:Nat} (h:InB w g Z 53):MoR false (wC w) (.agg #[.slice (some ⟨g,0,none⟩) n n,.slice none 0 0,.slice none 0 0,.slice none 0 0]) (bigM n):=by
  refine ⟨_,_,_,_,rfl,?_,sl_nil,sl_nil,sl_nil⟩
  have h2:InB w g (List.replicate n (Value.int .u64 0)).toArray 53:=by rw [← hZ];simpa using h
  have:=sl_lit (bs:=8) h2 (enc_zeros n) (by rw [List.length_replicate];omega) (by rw [List.length_replicate];unfold maxLen;omega)
  rw [List.length_replicate] at this
  exact this
set_option maxRecDepth 100000 in
set_option maxHeartbeats 4000000 in
theorem wrong_any {q:Option Addr} {c:Nat} (d:List Nat) (hp:ByIn w.heap.size w q d) (hx:bytesL d) (hl:d.length≤c) (hm:c≤maxLen) :
    Calls Try.prog 26 #[.slice q d.length c] w fun e w'=>(∃ z:Int,e=.returned (.int .i64 z)∧((∃ mo,imgOf d mo)→z=0)∧((∀ mo,¬ imgOf d mo)→z=(errR d:Nat)))∧Below w.heap.size w w':=by
  have HR:=Lib.hid (Read_any (w:=w) (q:=q) (c:=c) d hp hx hl hm (m0:=fun _=>none) (fun _ _ h=>by cases h))
  obtain ⟨n,hn⟩:∃ n,d.length=n:=⟨_,rfl⟩
  rw [hn] at HR ⊢
  clear hp hx hl hm hn
  go_enter Try.func26,Try.ntmps26
  go_wp2_with fail
  refine HR.out.mono ?_
  rintro e w1 ⟨hb,⟨mo,v,m',him,rfl,_,hH,hMR⟩ | ⟨hno,rfl⟩⟩
  · obtain ⟨b1,k1,f1,b2,k2,f2,b3,k3,f3,b4,k4,f4,rfl,_⟩:=hMR.read hH
    have HB:=Lib.hid (bl_al hb (.cells #[.slice b1 k1 f1,.slice b2 k2 f2,.slice b3 k3 f3,.slice b4 k4 f4] 26))
    have HI:=Lib.hid him
    clear hMR hH hb him
    go_wp2
    go_ret
    exact ⟨⟨0,rfl,fun _=>rfl,fun h=>absurd HI.out (h mo)⟩,HB.out⟩
  · obtain ⟨er,her⟩:∃ er,errR d=er:=⟨_,rfl⟩
    have hern:¬ (er:Int)=0:=by have:=errR_ne d;omega
    have HER:=Lib.hid her
    have HNO:=Lib.hid hno
    have HB:=Lib.hid (bl_al hb (.cells #[.slice none 0 0,.slice none 0 0,.slice none 0 0,.slice none 0 0] 26))
    have HK:=Lib.hid (fun (W:World)=>kmodule_true (w:=W) (la:=false) (lb:=false) (v:=zeroMo) (v':=zeroMo) zero_mo zero_mo)
    rw [her]
    unfold zeroMo at HK ⊢
    clear hb hno her
    go_wp2_with fail
    refine (HK.out _).mono ?_
    rintro e w2 ⟨rfl,hb2⟩
    have HB2:=Lib.hid (bl_tr HB.out hb2)
    clear hb2
    go_wp2
    go_ret
    exact ⟨⟨_,rfl,fun h=>absurd h.choose_spec (HNO.out _),fun _=>by rw [HER.out]⟩,HB2.out⟩
structure GvB (b:Nat) (a0:Int) (op:Int) (w:World):Prop where
  gl:InB w (b+1) #[.int .u64 3] 53
  ar:InB w (b+2) #[.int .i64 a0,.int .u64 0] 55
  rs:InB w (b+3) #[.int .u64 0] 53
  cd:InB w (b+4) #[.int .i64 op,.int .i64 7,.int .i64 46,.int .i64 0] 57
  fn:InB w (b+5) #[.int .u64 1,.slice none 0 0,.slice (some ⟨b+3,0,none⟩) 1 1,.int .i64 2,.int .i64 4,.slice (some ⟨b+4,0,none⟩) 2 2] 60
def gvX (a0 op:Int):MoM:=⟨[3],[(a0,0)],[],[⟨1,[],[0],2,4,[(op,7),(46,0)]⟩]⟩
def gvV (b:Nat):Value:=.agg #[.slice (some ⟨b+1,0,none⟩) 1 1,.slice (some ⟨b+2,0,none⟩) 1 1,.slice none 0 0,.slice (some ⟨b+5,0,none⟩) 1 1]
theorem GvB.le {b:Nat} {a0 op:Int} {w':World} (h:GvB b a0 op w) (hb:Below w.heap.size w w'):GvB b a0 op w':=⟨h.gl.le hb,h.ar.le hb,h.rs.le hb,h.cd.le hb,h.fn.le hb⟩
theorem GvB.mod {b:Nat} {a0 op:Int} (h:GvB b a0 op w):MoR false (wC w) (gvV b) (gvX a0 op):=by
  refine ⟨_,_,_,_,rfl,sl_lit (l:=[3]) h.gl (Enc.one rfl) (by decide) (by decide),sl_lit (l:=[(a0,0)]) h.ar (Enc.one rfl) (by simp) (by simp [maxLen]),sl_nil,?_⟩
  refine sl_lit (R:=FnR1 false _) (cs:=[.int .u64 1,.slice none 0 0,.slice (some ⟨b+3,0,none⟩) 1 1,.int .i64 2,.int .i64 4,.slice (some ⟨b+4,0,none⟩) 2 2]) (l:=[⟨1,[],[0],2,4,[(op,7),(46,0)]⟩]) h.fn (Enc.one ⟨_,_,_,rfl,sl_nil,?_,?_⟩) (by simp) (by simp [maxLen])
  · exact sl_lit (l:=[0]) h.rs (Enc.one rfl) (by decide) (by decide)
  · exact sl_lit (l:=[(op,7),(46,0)]) h.cd ⟨[.int .i64 op,.int .i64 7],[.int .i64 46,.int .i64 0],rfl,rfl,Enc.one rfl⟩ (by simp) (by simp [maxLen])
set_option maxRecDepth 100000 in
set_option maxHeartbeats 2000000 in
theorem given_blk (w:World):Calls Try.prog 27 #[] w fun e w'=>e=.returned (gvV w.heap.size)∧GvB w.heap.size 2 32 w'∧Below w.heap.size w w':=by
  go_enter Try.func27,Try.ntmps27
  go_wp2
  refine bodyPost_ret (results_cell_row rfl _ _ w.heap.size 26 #[.slice (some ⟨w.heap.size+1,0,none⟩) 1 1,.slice (some ⟨w.heap.size+1+1,0,none⟩) 1 1,.slice none 0 0,.slice (some ⟨w.heap.size+1+1+1+1+1,0,none⟩) 1 1] (0,0) _ rfl (inb_al (inb_al (inb_al (inb_al (inb_al (InB.new _ _ _) _) _) _) _) _) Try.underlying26 rfl (by kernel_rfl)) rfl ?_
  refine ⟨rfl,⟨?_,?_,?_,?_,?_⟩,bl_al (bl_al (bl_al (bl_al (bl_al (bl_al (Below.refl _ _) _) _) _) _) _) _⟩
  · exact inb_al (inb_al (inb_al (inb_al (InB.new' _ _ (by simp)) _) _) _) _
  · exact inb_al (inb_al (inb_al (InB.new' _ _ (by simp)) _) _) _
  · exact inb_al (inb_al (InB.new' _ _ (by simp)) _) _
  · exact inb_al (InB.new' _ _ (by simp)) _
  · exact InB.new' _ _ (by simp)
end
end Go.Proofs.Ytbfkgcapkffecaa
namespace Go.Proofs.Ytbfkgcapkffecaa
open Go Go.RowKit Go.Proofs.Mm Go.Sort
section
variable {w:World}
theorem gvX_W {a0 op:Int} (h1:szW a0) (h2:szW op):moW (gvX a0 op):=by
  refine ⟨⟨by simp [gvX],?_⟩,⟨by simp [gvX],?_⟩,⟨by simp [gvX],by simp [gvX]⟩,⟨by simp [gvX],?_⟩⟩
  · intro x hx;simp [gvX] at hx;subst hx;unfold labW;omega
  · intro x hx;simp [gvX] at hx;subst hx;exact ⟨h1,by unfold labW;simp⟩
  · intro f hf
    simp [gvX] at hf
    subst hf
    refine ⟨by unfold labW;simp,⟨by simp,by simp⟩,⟨by simp,?_⟩,by unfold szW;simp,by unfold szW;simp,⟨by simp,?_⟩⟩
    · intro x hx;simp at hx;subst hx;unfold labW;omega
    · intro x hx
      simp at hx
      rcases hx with rfl | rfl
      · exact ⟨h2,by unfold szW;simp⟩
      · exact ⟨by unfold szW;simp,by unfold szW;simp⟩
theorem gvX_1:moOk (gvX (-1) 32)=false:=by decide
theorem gvX_2:moOk (gvX 2 18)=false:=by decide
theorem lit_own (w:World) (l:List Nat) (h:l.length≤maxLen):OwnB w.heap.size (w.alloc (.cells (bv l).toArray 5)) (.slice (some ⟨w.heap.size,0,none⟩) l.length l.length) l:=by
  have:=World.ownsRow_lit (base:=w.heap.size) (size:=1) (e:=5) w (bv l).toArray l.length (Nat.le_refl _) h (by simp [bv])
  simpa [OwnB] using this
theorem wrong_no {q:Option Addr} {c k:Nat} {z:Nat} (d:List Nat) (hk:d.length=k) (hp:ByIn w.heap.size w q d) (hx:bytesL d) (hl:k≤c) (hm:c≤maxLen) (hno:∀ mo,¬ imgOf d mo) (hz:errR d=z) :
    Calls Try.prog 26 #[.slice q k c] w fun e w'=>e=.returned (.int .i64 (z:Int))∧Below w.heap.size w w':=by
  subst hk hz
  exact (wrong_any d hp hx hl hm).mono fun e w' ⟨⟨z,he,_,h2⟩,hb⟩=>⟨by rw [he,h2 hno],hb⟩
theorem wrong_yes {q:Option Addr} {c k:Nat} {mo:MoM} (d:List Nat) (hk:d.length=k) (hp:ByIn w.heap.size w q d) (hx:bytesL d) (hl:k≤c) (hm:c≤maxLen) (him:imgOf d mo) :
    Calls Try.prog 26 #[.slice q k c] w fun e w'=>e=.returned (.int .i64 0)∧Below w.heap.size w w':=by
  subst hk
  exact (wrong_any d hp hx hl hm).mono fun e w' ⟨⟨z,he,h1,_⟩,hb⟩=>⟨by rw [he,h1 ⟨mo,him⟩],hb⟩
theorem sealed_lit {ad:Addr} {c k k8:Nat} (l:List Nat) (hk:l.length=k) (hk8:k+8=k8) (hA:ByIn w.heap.size w (some ad) l) (hx:bytesL l) (hm:k≤1000000) :
    Calls Try.prog 25 #[.slice (some ad) k c] w fun e w'=>∃ g cp,e=.returned (.slice (some ⟨g,0,none⟩) k8 cp)∧ByIn w'.heap.size w' (some ⟨g,0,none⟩) (l++sealF l)∧k8≤cp∧cp≤maxLen∧Below w.heap.size w w':=by
  subst hk hk8
  refine (sealed_any l hA hx hm).mono ?_
  rintro e w' ⟨g,cp,rfl,hO,hb⟩
  have hlen:(l++sealF l).length=l.length+8:=by rw [List.length_append,sealF_len]
  rw [← hlen] at hO
  have hc:=row_cap hO
  rw [hlen] at hc
  exact ⟨g,cp,rfl,hO.in,hc.1,hc.2,hb⟩
theorem bytes_lit {p q:Option Addr} {c d k:Nat} (l:List Nat) (hk:l.length=k) (hm:k≤1000000) (hp:ByIn w.heap.size w p l) (hq:ByIn w.heap.size w q l) :
    Calls Try.prog 13 #[.slice p k c,.slice q k d] w fun e w'=>e=.returned (.bool true)∧Below w.heap.size w w':=by
  subst hk
  have:=bytes_any p q c d l l (by unfold maxLen;omega) w hp hq
  rw [decide_eq_true rfl] at this
  exact this
theorem GvB.set1 {b:Nat} {a0 op x:Int} (h:GvB b a0 op w):GvB b x op (w.setCell ⟨b+2,0,none⟩ (.int .i64 x)) :=
  ⟨heap_other h.gl (by omega),by have:=heap_set h.ar 0 (.int .i64 x);exact this,heap_other h.rs (by omega),heap_other h.cd (by omega),heap_other h.fn (by omega)⟩
theorem GvB.set2 {b:Nat} {a0 op x:Int} (h:GvB b a0 op w):GvB b a0 x (w.setCell ⟨b+4,0,none⟩ (.int .i64 x)) :=
  ⟨heap_other h.gl (by omega),heap_other h.ar (by omega),heap_other h.rs (by omega),by have:=heap_set h.cd 0 (.int .i64 x);exact this,heap_other h.fn (by omega)⟩
theorem Sum_nil (w:World):Calls Try.prog 23 #[.slice none 0 0] w fun e w'=>e=.returned (.int .u64 14695981039346656037)∧w'=w :=
  Sum_any (w:=w) (qp:=none) (cp:=0) [] (fun i hi=>absurd hi (by simp)) (by simp)
theorem WriteR.no1 {w w':World} {m:MoM} {e:Ending} (h:WriteR w m e w') (hc:moOk m=false):e=.returned (.tuple #[.slice none 0 0,.int .i64 1])∧Below w.heap.size w w':=by
  obtain ⟨z,he,_,h1,_,hb⟩:=h.no (fun k=>by have k1:=k.1;rw [hc] at k1;cases k1)
  rw [h1 hc] at he
  exact ⟨he,hb⟩
theorem WriteR.no3 {w w':World} {m:MoM} {e:Ending} (h:WriteR w m e w') (hc:moOk m=true) (hl:262144<(imF m).length):e=.returned (.tuple #[.slice none 0 0,.int .i64 3])∧Below w.heap.size w w':=by
  obtain ⟨z,he,_,_,h3,hb⟩:=h.no (fun k=>by have:=k.2;omega)
  rw [h3 hc] at he
  exact ⟨he,hb⟩
theorem errI_big {d:List Nat} (h:262144<d.length):errI d=3:=by unfold errI;rw [if_pos h]
theorem no_big {d:List Nat} (h:262144<d.length):∀ mo,¬ imgOf d mo:=no_of_err (by rw [errI_big h];decide)
theorem errR_big {d:List Nat} (h:262144<d.length):errR d=3:=by unfold errR;rw [if_neg (by rw [errI_big h];decide),errI_big h]
theorem form_g (w:World):Calls Try.prog 28 #[] w fun e w'=>∃ g,e=.returned (.slice (some ⟨g,0,none⟩) 21 21)∧OwnB w.heap.size w' (.slice (some ⟨g,0,none⟩) 21 21) formL∧Below w.heap.size w w' :=
  (form_any w).mono fun _ _ h=>⟨_,h⟩
theorem lit_in (w:World) (n:Nat) {Z:Array Value} (hZ:Z.toList=bv (List.replicate n 0)) (h:n≤maxLen):ByIn (w.alloc (.cells Z 5)).heap.size (w.alloc (.cells Z 5)) (some ⟨w.heap.size,0,none⟩) (List.replicate n 0):=by
  have e4:Z=(bv (List.replicate n 0)).toArray:=by rw [← hZ]
  have h4:=lit_own w (List.replicate n 0) (by rw [List.length_replicate];exact h)
  rw [← e4] at h4
  exact h4.in
theorem form_x:bytesL formL:=by intro x hx;simp [formL] at hx;omega
theorem lastL_x:bytesL lastL:=by intro x hx;simp [lastL] at hx;omega
theorem bytesL_one {x:Nat} (h:x<256):bytesL [x]:=by intro y hy;simp at hy;subst hy;exact h
theorem wpList_rowg {ops:Array Oper} {rest:List Oper} {o:Oper} {a:Act} {Q:Exit→Act→World→Prop} {w:World} (hgd:Region.wanted o (yielded ops a.tmps)=true) (s x:Operand)
    (ho:o.op=.call { callee:=.builtin .append,args:=#[s,x],argTypes:=#[28,28] })
    (B:Nat) (v:Value) (l:List Nat) (hs:a.eval s=v) (hown:RowW B w v l)
    (ad:Addr) (c:Nat) (news:List Nat) (hne:0<news.length) (hx:a.eval x=.slice (some ad) news.length c) (hnews:∀ j u,(bv news)[j]?=some u→w.cell? (ad.add j)=some u)
    (hb:l.length+news.length≤140737488355328) (hbase:B≤w.heap.size)
    (h:∀ v' w',OwnB B w' v' (l++news)→w.grownBy w' v.ownBlock→wpList Try.prog ops Q rest (a.put o.dst v') w'):wpList Try.prog ops Q (o :: rest) a w:=by
  obtain ⟨v',w',hr,r1,r2⟩:=run_append_row w B o.type v l hown ad c news hne hnews hb hbase
  refine wpList_step fun K hK=>?_
  simp only [hgd,if_true]
  unfold Oper.wp execOp
  simp only [ho,resolve,invoke,builtin,Sem.run_bind,Sem.run_pure,Result.andThen_ok,List.map_toArray,List.map_cons,List.map_nil,hs,hx,hr]
  exact hK _ _ (h v' w' r1 r2)
set_option maxRecDepth 100000 in
set_option maxHeartbeats 8000000 in
theorem known_law (w:World):Calls Try.prog 6 #[] w fun e w'=>e=.returned (.bool true)∧Below w.heap.size w w':=by
  obtain ⟨Z1,hz1,hZ1⟩:=mk_labels 262144 (by decide)
  obtain ⟨Z2,hz2,hZ2⟩:=mk_labels 262126 (by decide)
  obtain ⟨Z3,hz3,hZ3⟩:=mk_labels 262127 (by decide)
  obtain ⟨Z4,hz4,hZ4⟩:=mk_bytes 262145 (by decide)
  have HZ1:=Lib.hid hZ1
  have HZ2:=Lib.hid hZ2
  have HZ3:=Lib.hid hZ3
  have HZ4:=Lib.hid hZ4
  simp only [Int.cast_ofNat_Int] at hz1 hz2 hz3 hz4
  clear hZ1 hZ2 hZ3 hZ4
  have HWE:=Lib.hid (Write_any (w:=w) (lt:=false) (v:=.agg #[.slice none 0 0,.slice none 0 0,.slice none 0 0,.slice none 0 0]) zero_mo zero_W)
  go_enter Try.func6,Try.ntmps6
  go_wp2_with fail
  refine HWE.out.mono ?_
  rintro e w1 hw1
  obtain ⟨gE,cE,rfl,hO,hc1,hc2,hb⟩:=hw1.yes em_WC
  have HB1:=Lib.hid hb
  rw [show (imF ⟨[],[],[],[]⟩).length=16 from em_len] at hO hc1 ⊢
  rw [show imF ⟨[],[],[],[]⟩=emL++sealF emL from imF_em] at hO
  have HO1:=Lib.hid hO
  clear hb hO hw1 HWE
  go_wp2_with fail
  refine (awake_any _).mono ?_
  rintro e w2 ⟨rfl,hb⟩
  have HB2:=Lib.hid hb
  clear hb
  have HS1:=Lib.hid (sealed_lit (w:=w2.alloc (.cells #[.int .u8 76,.int .u8 86,.int .u8 82,.int .u8 1,.int .u8 0,.int .u8 0,.int .u8 0,.int .u8 0] 5)) (ad:=⟨w2.heap.size,0,none⟩) (c:=8) (k:=8) (k8:=16) emL rfl rfl (lit_own w2 emL (by decide)).in (by intro x hx;simp [emL] at hx;omega) (by decide))
  go_wp2_with fail
  refine HS1.out.mono ?_
  rintro e w3 ⟨g3,cp3,rfl,hi3,_,_,hb⟩
  have HB3:=Lib.hid (bl_tr (bl_al HB2.out _) hb)
  have HBY:=Lib.hid (bytes_lit (w:=w3) (c:=cE) (d:=cp3) (k:=16) (emL++sealF emL) (by rw [List.length_append,sealF_len];rfl) (by decide) (HO1.out.stay HB3.out).in hi3)
  clear hi3 hb HS1
  go_wp2_with fail
  refine HBY.out.mono ?_
  rintro e w4 ⟨rfl,hb⟩
  have HB4:=Lib.hid (bl_tr HB3.out hb)
  have HX:=Lib.hid (fun (W:World) (h:Below w1.heap.size w1 W)=>(HO1.out.stay h).in)
  have hbt:bytesL (emL++sealF emL):=bytesL_append (by intro x hx;simp [emL] at hx;omega) (sealF_bytes _)
  have HW4:=Lib.hid (wrong_yes (w:=w4) (c:=cE) (k:=16) (mo:=emM) (emL++sealF emL) (by rw [List.length_append,sealF_len];rfl) (HX.out w4 HB4.out) hbt hc1 hc2 (by rw [← imF_em];exact img_im zero_W em_ok em_WC.2))
  have HBT:=Lib.hid hbt
  clear hb hbt HBY
  go_wp2_with fail
  refine HW4.out.mono ?_
  rintro e w5 ⟨rfl,hb⟩
  have HB5:=Lib.hid (bl_tr HB4.out hb)
  have HW5:=Lib.hid (wrong_no (w:=w5) (q:=some ⟨gE,0,none⟩) (c:=cE) (k:=15) (z:=121) ((emL++sealF emL).take 15) (by rw [List.length_take,List.length_append,sealF_len];rfl) ((HX.out w5 HB5.out).take _) (bytesL_take HBT.out _) (by omega) hc2 no_15 known_15)
  have hcE:(15:Int)≤(cE:Int):=by omega
  have hcE0:¬ cE=0:=by omega
  clear hb HW4
  go_wp2_with fail
  refine HW5.out.mono ?_
  rintro e w6 ⟨rfl,hb⟩
  have HB6:=Lib.hid (bl_tr HB5.out hb)
  have HW6:=Lib.hid (wrong_no (w:=w6) (q:=none) (c:=0) (k:=0) (z:=120) [] rfl (ByIn.nil _ _ _) (by intro x hx;cases hx) (Nat.le_refl _) (by unfold maxLen;omega) no_nil known_nil)
  clear hb HW5
  go_wp2_with fail
  refine HW6.out.mono ?_
  rintro e w7 ⟨rfl,hb⟩
  have HB7:=Lib.hid (bl_tr HB6.out hb)
  have HW7:=Lib.hid (wrong_no (w:=w7.alloc (.cells #[.int .u8 76,.int .u8 86,.int .u8 82,.int .u8 1,.int .u8 0,.int .u8 0,.int .u8 0,.int .u8 0,.int .u8 0,.int .u8 0,.int .u8 0,.int .u8 0] 5)) (q:=some ⟨w7.heap.size,0,none⟩) (c:=12) (k:=12) (z:=121) [76,86,82,1,0,0,0,0,0,0,0,0] rfl (lit_own w7 [76,86,82,1,0,0,0,0,0,0,0,0] (by decide)).in (by intro x hx;simp at hx;omega) (Nat.le_refl _) (by unfold maxLen;omega) no_12 known_12)
  clear hb HW6
  go_wp2_with fail
  refine HW7.out.mono ?_
  rintro e w8 ⟨rfl,hb⟩
  have HB8:=Lib.hid (bl_tr (bl_al HB7.out _) hb)
  clear hb HW7
  go_wp2_with fail
  refine (Sum_nil w8).mono ?_
  rintro e w9 ⟨rfl,hw9⟩
  have hw8:=hw9.symm
  clear hw9
  subst hw8
  go_wp2_with fail
  refine (given_blk w8).mono ?_
  rintro e wa ⟨rfl,hG,hb⟩
  have HBa:=Lib.hid (bl_tr HB8.out hb)
  obtain ⟨b,hbb⟩:∃ b,w8.heap.size=b:=⟨_,rfl⟩
  have HBB:=Lib.hid hbb
  rw [hbb] at hG ⊢
  have HGA:=Lib.hid hG
  unfold gvV
  clear hbb hb hG
  go_upto_region 5 with (fail)
  have HBb:=Lib.hid (bl_al HBa.out (.cells #[.slice (some ⟨b+1,0,none⟩) 1 1,.slice (some ⟨b+2,0,none⟩) 1 1,.slice none 0 0,.slice (some ⟨b+5,0,none⟩) 1 1] 26))
  have hM:InB (wa.alloc (.cells #[.slice (some ⟨b+1,0,none⟩) 1 1,.slice (some ⟨b+2,0,none⟩) 1 1,.slice none 0 0,.slice (some ⟨b+5,0,none⟩) 1 1] 26)) wa.heap.size #[.slice (some ⟨b+1,0,none⟩) 1 1,.slice (some ⟨b+2,0,none⟩) 1 1,.slice none 0 0,.slice (some ⟨b+5,0,none⟩) 1 1] 26:=InB.new' _ _ (by simp)
  have hG:=HGA.out.le (bl_al (Below.refl _ _) (.cells #[.slice (some ⟨b+1,0,none⟩) 1 1,.slice (some ⟨b+2,0,none⟩) 1 1,.slice none 0 0,.slice (some ⟨b+5,0,none⟩) 1 1] 26))
  have hlt:b+5<wa.heap.size:=HGA.out.fn.lt
  have hle:w1.heap.size≤b:=by have:=HB8.out.size;have:=HBB.out;omega
  obtain ⟨wb,hwb⟩:∃ x,(wa.alloc (.cells #[.slice (some ⟨b+1,0,none⟩) 1 1,.slice (some ⟨b+2,0,none⟩) 1 1,.slice none 0 0,.slice (some ⟨b+5,0,none⟩) 1 1] 26))=x:=⟨_,rfl⟩
  rw [hwb] at hM hG HBb ⊢
  obtain ⟨gm,hgm⟩:∃ x,wa.heap.size=x:=⟨_,rfl⟩
  rw [hgm] at hM hlt ⊢
  clear hwb hgm HGA
  have x2:wb.cell? ⟨b+2,0,none⟩=some (.int .i64 2):=hG.ar.cell rfl
  have f2:=hG.ar.free 0
  have y0:wb.cell? ⟨gm,0,none⟩=some (.slice (some ⟨b+1,0,none⟩) 1 1):=hM.cell rfl
  have y1:wb.cell? ⟨gm,1,none⟩=some (.slice (some ⟨b+2,0,none⟩) 1 1):=hM.cell rfl
  have y2:wb.cell? ⟨gm,2,none⟩=some (.slice none 0 0):=hM.cell rfl
  have y3:wb.cell? ⟨gm,3,none⟩=some (.slice (some ⟨b+5,0,none⟩) 1 1):=hM.cell rfl
  have HM:=Lib.hid hM
  have HG:=Lib.hid hG
  clear hM hG
  go_upto_region 6 with (fail)
  obtain ⟨wc,hwc⟩:∃ x,wb.setCell ⟨b+2,0,none⟩ (.int .i64 (-1))=x:=⟨_,rfl⟩
  rw [hwc]
  have hM:InB wc gm #[.slice (some ⟨b+1,0,none⟩) 1 1,.slice (some ⟨b+2,0,none⟩) 1 1,.slice none 0 0,.slice (some ⟨b+5,0,none⟩) 1 1] 26:=hwc ▸ heap_other HM.out (by omega)
  have hG:GvB b (-1) 32 wc:=hwc ▸ HG.out.set1
  have HBcwc:=Lib.hid (show Below w1.heap.size w1 wc from hwc ▸ bl_set HBb.out _ (by omega))
  clear hwc x2 f2 y0 y1 y2 y3 HM HG HBb
  have y0:wc.cell? ⟨gm,0,none⟩=some (.slice (some ⟨b+1,0,none⟩) 1 1):=hM.cell rfl
  have y1:wc.cell? ⟨gm,1,none⟩=some (.slice (some ⟨b+2,0,none⟩) 1 1):=hM.cell rfl
  have y2:wc.cell? ⟨gm,2,none⟩=some (.slice none 0 0):=hM.cell rfl
  have y3:wc.cell? ⟨gm,3,none⟩=some (.slice (some ⟨b+5,0,none⟩) 1 1):=hM.cell rfl
  have HWR:=Lib.hid (Write_any (w:=wc) (lt:=false) (v:=gvV b) hG.mod (gvX_W (by unfold szW;simp) (by unfold szW;simp)))
  unfold gvV at HWR
  clear hM hG
  go_wp2_with fail
  refine HWR.out.mono ?_
  rintro e w10 hw
  obtain ⟨rfl,hb⟩:=hw.no1 gvX_1
  have HB10:=Lib.hid (bl_tr HBcwc.out hb)
  clear hb hw HWR y0 y1 y2 y3 HBB HBcwc hlt hle
  go_wp2_with fail
  refine (given_blk w10).mono ?_
  rintro e wd ⟨rfl,hG,hb⟩
  have HBd:=Lib.hid (bl_tr HB10.out hb)
  obtain ⟨b,hbb⟩:∃ b,w10.heap.size=b:=⟨_,rfl⟩
  have HBB:=Lib.hid hbb
  rw [hbb] at hG ⊢
  have HGA:=Lib.hid hG
  unfold gvV
  clear hbb hb hG
  go_upto_region 8 with (fail)
  have HBb:=Lib.hid (bl_al HBd.out (.cells #[.slice (some ⟨b+1,0,none⟩) 1 1,.slice (some ⟨b+2,0,none⟩) 1 1,.slice none 0 0,.slice (some ⟨b+5,0,none⟩) 1 1] 26))
  have hM:InB (wd.alloc (.cells #[.slice (some ⟨b+1,0,none⟩) 1 1,.slice (some ⟨b+2,0,none⟩) 1 1,.slice none 0 0,.slice (some ⟨b+5,0,none⟩) 1 1] 26)) wd.heap.size #[.slice (some ⟨b+1,0,none⟩) 1 1,.slice (some ⟨b+2,0,none⟩) 1 1,.slice none 0 0,.slice (some ⟨b+5,0,none⟩) 1 1] 26:=InB.new' _ _ (by simp)
  have hG:=HGA.out.le (bl_al (Below.refl _ _) (.cells #[.slice (some ⟨b+1,0,none⟩) 1 1,.slice (some ⟨b+2,0,none⟩) 1 1,.slice none 0 0,.slice (some ⟨b+5,0,none⟩) 1 1] 26))
  have hlt:b+5<wd.heap.size:=HGA.out.fn.lt
  have hle:w1.heap.size≤b:=by have:=HB10.out.size;have:=HBB.out;omega
  obtain ⟨we,hwb⟩:∃ x,(wd.alloc (.cells #[.slice (some ⟨b+1,0,none⟩) 1 1,.slice (some ⟨b+2,0,none⟩) 1 1,.slice none 0 0,.slice (some ⟨b+5,0,none⟩) 1 1] 26))=x:=⟨_,rfl⟩
  rw [hwb] at hM hG HBb ⊢
  obtain ⟨gm,hgm⟩:∃ x,wd.heap.size=x:=⟨_,rfl⟩
  rw [hgm] at hM hlt ⊢
  clear hwb hgm HGA
  have x2:we.cell? ⟨b+5,5,none⟩=some (.slice (some ⟨b+4,0,none⟩) 2 2):=hG.fn.cell rfl
  have x3:we.cell? ⟨b+4,0,none⟩=some (.int .i64 32):=hG.cd.cell rfl
  have f2:=hG.cd.free 0
  have y0:we.cell? ⟨gm,0,none⟩=some (.slice (some ⟨b+1,0,none⟩) 1 1):=hM.cell rfl
  have y1:we.cell? ⟨gm,1,none⟩=some (.slice (some ⟨b+2,0,none⟩) 1 1):=hM.cell rfl
  have y2:we.cell? ⟨gm,2,none⟩=some (.slice none 0 0):=hM.cell rfl
  have y3:we.cell? ⟨gm,3,none⟩=some (.slice (some ⟨b+5,0,none⟩) 1 1):=hM.cell rfl
  have HM:=Lib.hid hM
  have HG:=Lib.hid hG
  clear hM hG
  go_upto_region 9 with (fail)
  obtain ⟨wf,hwc⟩:∃ x,we.setCell ⟨b+4,0,none⟩ (.int .i64 18)=x:=⟨_,rfl⟩
  rw [hwc]
  have hM:InB wf gm #[.slice (some ⟨b+1,0,none⟩) 1 1,.slice (some ⟨b+2,0,none⟩) 1 1,.slice none 0 0,.slice (some ⟨b+5,0,none⟩) 1 1] 26:=hwc ▸ heap_other HM.out (by omega)
  have hG:GvB b 2 18 wf:=hwc ▸ HG.out.set2
  have HBcwf:=Lib.hid (show Below w1.heap.size w1 wf from hwc ▸ bl_set HBb.out _ (by omega))
  clear hwc x2 f2 x3 y0 y1 y2 y3 HM HG HBb
  have y0:wf.cell? ⟨gm,0,none⟩=some (.slice (some ⟨b+1,0,none⟩) 1 1):=hM.cell rfl
  have y1:wf.cell? ⟨gm,1,none⟩=some (.slice (some ⟨b+2,0,none⟩) 1 1):=hM.cell rfl
  have y2:wf.cell? ⟨gm,2,none⟩=some (.slice none 0 0):=hM.cell rfl
  have y3:wf.cell? ⟨gm,3,none⟩=some (.slice (some ⟨b+5,0,none⟩) 1 1):=hM.cell rfl
  have HWR:=Lib.hid (Write_any (w:=wf) (lt:=false) (v:=gvV b) hG.mod (gvX_W (by unfold szW;simp) (by unfold szW;simp)))
  unfold gvV at HWR
  clear hM hG
  go_wp2_with fail
  refine HWR.out.mono ?_
  rintro e w11 hw
  obtain ⟨rfl,hb⟩:=hw.no1 gvX_2
  have HB11:=Lib.hid (bl_tr HBcwf.out hb)
  clear hb hw HWR y0 y1 y2 y3 HBB HBcwf hlt hle
  have HWZ:=Lib.hid (Write_any (w:=w11.alloc (.cells Z1 53)) (lt:=false) (v:=.agg #[.slice (some ⟨w11.heap.size,0,none⟩) 262144 262144,.slice none 0 0,.slice none 0 0,.slice none 0 0]) (big_MoR (n:=262144) (by omega) HZ1.out (InB.new _ _ _)) (big_W _ (by omega)))
  go_wp2_with fail
  refine HWZ.out.mono ?_
  rintro e w12 hw
  obtain ⟨rfl,hb⟩:=hw.no3 (big_ok _) (by rw [big_len,putU_three (by omega) (by omega)];omega)
  have HB12:=Lib.hid (bl_tr (bl_al HB11.out _) hb)
  clear hb hw HWZ HZ1 hz1
  have HWZ:=Lib.hid (Write_any (w:=w12.alloc (.cells Z2 53)) (lt:=false) (v:=.agg #[.slice (some ⟨w12.heap.size,0,none⟩) 262126 262126,.slice none 0 0,.slice none 0 0,.slice none 0 0]) (big_MoR (n:=262126) (by omega) HZ2.out (InB.new _ _ _)) (big_W _ (by omega)))
  go_wp2_with fail
  refine HWZ.out.mono ?_
  rintro e w13 hw
  have hln:(imF (bigM 262126)).length=262144:=by rw [big_len,putU_three (by omega) (by omega)]
  obtain ⟨g13,c13,rfl,hO,_,_,hb⟩:=hw.yes ⟨big_ok _,by rw [hln];omega⟩
  rw [hln]
  have HB13:=Lib.hid (bl_tr (bl_al HB12.out _) hb)
  clear hb hw HWZ HZ2 hz2 hO hln
  have HWZ:=Lib.hid (Write_any (w:=w13.alloc (.cells Z3 53)) (lt:=false) (v:=.agg #[.slice (some ⟨w13.heap.size,0,none⟩) 262127 262127,.slice none 0 0,.slice none 0 0,.slice none 0 0]) (big_MoR (n:=262127) (by omega) HZ3.out (InB.new _ _ _)) (big_W _ (by omega)))
  go_wp2_with fail
  refine HWZ.out.mono ?_
  rintro e w14 hw
  obtain ⟨rfl,hb⟩:=hw.no3 (big_ok _) (by rw [big_len,putU_three (by omega) (by omega)];omega)
  have HB14:=Lib.hid (bl_tr (bl_al HB13.out _) hb)
  clear hb hw HWZ HZ3 hz3
  have HW:=Lib.hid (wrong_no (w:=w14.alloc (.cells Z4 5)) (q:=some ⟨w14.heap.size,0,none⟩) (c:=262145) (k:=262145) (z:=3) (List.replicate 262145 0) (List.length_replicate) (lit_in w14 _ HZ4.out (by unfold maxLen;omega)) (by intro x hx;rw [List.eq_of_mem_replicate hx];omega) (Nat.le_refl _) (by unfold maxLen;omega) (no_big (by rw [List.length_replicate];omega)) (errR_big (by rw [List.length_replicate];omega)))
  go_wp2_with fail
  refine HW.out.mono ?_
  rintro e w15 ⟨rfl,hb⟩
  have HB15:=Lib.hid (bl_tr (bl_al HB14.out _) hb)
  clear hb HW HZ4 hz4
  go_wp2_with fail
  refine (form_g w15).mono ?_
  rintro e w16 ⟨g16,rfl,hO,hb⟩
  have HB16:=Lib.hid (bl_tr HB15.out hb)
  have hA:=hO.alloc (.cells #[.int .u8 ((0:Nat):Int)] 5)
  have q2:w15.heap.size≤(w16.alloc (.cells #[.int .u8 ((0:Nat):Int)] 5)).heap.size:=by have:=hb.size;rw [World.size_alloc];omega
  have HA:=Lib.hid hA
  have Q2:=Lib.hid q2
  have HS15:=Lib.hid hb
  have HG16:=Lib.hid (hO.lt g16 rfl)
  clear hb hO hA q2
  go_wp2_with (at_builtin;go_loud (refine wpList_rowg (by rfl) _ _ rfl w15.heap.size _ formL rfl (.inl HA.out) ⟨w16.heap.size,0,none⟩ 1 [0] Nat.zero_lt_one rfl (one_cells _ 0) (by decide) Q2.out ?_))
  intro v17 w17 hO hgr
  have hO:OwnB w15.heap.size w17 v17 (formL++[0]):=hO
  obtain ⟨g17,c17,rfl,_⟩:=row_form hO (by decide)
  have HI:=Lib.hid hO.in
  have hb:=(bl_al HS15.out (.cells #[.int .u8 ((0:Nat):Int)] 5)).trans (below_own hgr (by have:=HS15.out.size;rw [World.size_alloc];omega) (fun j hj=>by have h9:g16=j:=(by simpa [Value.ownBlock] using hj);have:=HG16.out;omega))
  have HB17:=Lib.hid (bl_tr HB15.out hb)
  clear hO hb hgr HS15 HA Q2 HB16
  have e22:(formL++[0]).length=22:=rfl
  rw [e22]
  clear e22
  have HSE:=Lib.hid (sealed_lit (w:=w17) (ad:=⟨g17,0,none⟩) (c:=c17) (k:=22) (k8:=30) (formL++[0]) rfl rfl HI.out (bytesL_append form_x (bytesL_one (by omega))) (by omega))
  go_wp2_with fail
  refine HSE.out.mono ?_
  rintro e w18 ⟨g18,cp18,rfl,hi18,hl18,hm18,hb⟩
  have HB18:=Lib.hid (bl_tr HB17.out hb)
  have HW:=Lib.hid (wrong_no (w:=w18) (q:=some ⟨g18,0,none⟩) (c:=cp18) (k:=30) (z:=120) ((formL++[0])++sealF (formL++[0])) (by rw [List.length_append,sealF_len];rfl) hi18 (bytesL_append (bytesL_append form_x (bytesL_one (by omega))) (sealF_bytes _)) hl18 hm18 no_more (errR_seal (by decide) (by decide) (by decide)))
  clear hi18 hl18 hm18 hb HSE HI
  go_wp2_with fail
  refine HW.out.mono ?_
  rintro e w19 ⟨rfl,hb⟩
  have HB19:=Lib.hid (bl_tr HB18.out hb)
  clear hb HW
  go_wp2_with fail
  refine (form_g w19).mono ?_
  rintro e w20 ⟨g20,rfl,hO,hb⟩
  have HB20:=Lib.hid (bl_tr HB19.out hb)
  have HSE:=Lib.hid (sealed_lit (w:=w20) (ad:=⟨g20,0,none⟩) (c:=21) (k:=20) (k8:=28) (formL.take 20) rfl rfl (hO.in.take 20) (bytesL_take form_x _) (by omega))
  clear hO hb
  go_wp2_with fail
  refine HSE.out.mono ?_
  rintro e w21 ⟨g21,cp21,rfl,hi21,hl21,hm21,hb⟩
  have HB21:=Lib.hid (bl_tr HB20.out hb)
  have HW:=Lib.hid (wrong_no (w:=w21) (q:=some ⟨g21,0,none⟩) (c:=cp21) (k:=28) (z:=120) ((formL.take 20)++sealF (formL.take 20)) (by rw [List.length_append,sealF_len];rfl) hi21 (bytesL_append (bytesL_take form_x _) (sealF_bytes _)) hl21 hm21 no_less (errR_seal (by decide) (by decide) (by decide)))
  clear hi21 hl21 hm21 hb HSE
  go_wp2_with fail
  refine HW.out.mono ?_
  rintro e w22 ⟨rfl,hb⟩
  have HB22:=Lib.hid (bl_tr HB21.out hb)
  clear hb HW
  have HSE:=Lib.hid (sealed_lit (w:=w22.alloc (.cells #[.int .u8 76,.int .u8 86,.int .u8 82,.int .u8 1,.int .u8 255,.int .u8 255,.int .u8 255,.int .u8 255,.int .u8 255,.int .u8 255,.int .u8 255,.int .u8 255,.int .u8 255,.int .u8 1] 5)) (ad:=⟨w22.heap.size,0,none⟩) (c:=14) (k:=14) (k8:=22) lastL rfl rfl (lit_own w22 lastL (by decide)).in lastL_x (by omega))
  go_wp2_with fail
  refine HSE.out.mono ?_
  rintro e w23 ⟨g23,cp23,rfl,hi23,hl23,hm23,hb⟩
  have HB23:=Lib.hid (bl_tr (bl_al HB22.out _) hb)
  have HW:=Lib.hid (wrong_no (w:=w23) (q:=some ⟨g23,0,none⟩) (c:=cp23) (k:=22) (z:=120) (lastL++sealF lastL) (by rw [List.length_append,sealF_len];rfl) hi23 (bytesL_append lastL_x (sealF_bytes _)) hl23 hm23 no_last (errR_seal (by decide) (by decide) (by decide)))
  clear hi23 hl23 hm23 hb HSE
  go_wp2_with fail
  refine HW.out.mono ?_
  rintro e w24 ⟨rfl,hb⟩
  have HB24:=Lib.hid (bl_tr HB23.out hb)
  clear hb HW
  go_wp2
  go_ret
  exact ⟨rfl,bl_tr HB1.out HB24.out⟩
end
end Go.Proofs.Ytbfkgcapkffecaa
