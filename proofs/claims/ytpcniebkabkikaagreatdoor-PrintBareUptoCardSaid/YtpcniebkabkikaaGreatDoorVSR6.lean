/- Contracts of the small calls on names of package bits. goodNames of package bits: for every list of names and every memory in which it lies. numbered and item of package bits: for every number from 0 to 63 and every row of 64 names. The writers of a strings.Builder that the call itself has made, at this translation (where copyCheck's refusal is left open): for every byte and every string within Go -/
import Derived.Test.YtpcniebkabkikaaGreatDoorVSR5
import Derived.BigQuiet
import Derived.Deep.QuietTactic
import Derived.Test.YtpcniebkabkikaaGreatDoorVSR3
import Derived.WalkLawsBesides
import Derived.Laws.NewBlocks
import Derived.Lib.FrozenHead2
import Derived.Lib.OthersKept
import Derived.Test.YtpcniebkabkikaaGreatDoorVSR4
import Derived.Lib.ItoaMem
import Derived.Lib.LaidTab
namespace Go.Proofs.YtpcniebkabkikaaGreatDoor.Bt
open Go Go.RowKit
theorem ret_bool {a b:Bool} (h:a=b):Ending.returned (.bool a)=.returned (.bool b):=by rw [h]
theorem ret_str {a b:ByteArray} (h:a=b):Ending.returned (.string a)=.returned (.string b):=by rw [h]
theorem dig_any (c:UInt8) (w:World) :
    Calls Tryz.prog 261 #[.int .u8 (c.toNat:Int)] w fun e w'=>e=.returned (.bool (digB c))∧w=w':=by
  by_cases h1:48≤c.toNat
  · go_enter Tryz.func261,Tryz.ntmps261
    go_wp2
    go_ret
    exact ⟨ret_bool (by simp [digB,h1];omega),rfl⟩
  · go_enter Tryz.func261,Tryz.ntmps261
    go_wp2
    go_ret
    exact ⟨ret_bool (by simp [digB,h1]),rfl⟩
theorem let_any (c:UInt8) (w:World) :
    Calls Tryz.prog 262 #[.int .u8 (c.toNat:Int)] w fun e w'=>e=.returned (.bool (letB c))∧w=w':=by
  by_cases h1:97≤c.toNat
  · by_cases h2:c.toNat≤122
    · have h2':decide ((c.toNat:Int)≤122)=true:=by simp;omega
      go_enter Tryz.func262,Tryz.ntmps262
      go_wp2
      go_ret
      exact ⟨ret_bool (by simp [letB,h1,h2]),rfl⟩
    · have h2':decide ((c.toNat:Int)≤122)=false:=by simp;omega
      go_enter Tryz.func262,Tryz.ntmps262
      go_wp2
      go_ret
      exact ⟨ret_bool (by rw [Bool.eq_iff_iff];simp [letB,h2];omega),rfl⟩
  · go_enter Tryz.func262,Tryz.ntmps262
    go_wp2
    go_ret
    exact ⟨ret_bool (by rw [Bool.eq_iff_iff];simp [letB,h1];omega),rfl⟩
set_option maxHeartbeats 1000000 in
theorem wf_any (s:ByteArray) (hs:s.size≤maxLen) (w:World) :
    Calls Tryz.prog 234 #[.string s] w fun e w'=>e=.returned (.bool (wfB s.data.toList))∧w=w':=by
  unfold maxLen at hs
  have hsz:s.data.toList.length=s.size:=(Lib.size_eq s).symm
  by_cases h0:s.size<1
  · have hw:=Lib.hid (wfB_nil (l:=s.data.toList) (by omega))
    go_enter Tryz.func234,Tryz.ntmps234
    go_wp2
    go_ret
    exact ⟨ret_bool hw.out.symm,rfl⟩
  by_cases h1:32<s.size
  · have hw:=Lib.hid (wfB_long (l:=s.data.toList) (by omega))
    go_enter Tryz.func234,Tryz.ntmps234
    go_wp2
    go_ret
    exact ⟨ret_bool hw.out.symm,rfl⟩
  have h00:0<s.size:=by omega
  have hd:=dig_any (s[0]) w
  by_cases h2:digB (s[0])=true
  · have hw:=Lib.hid (wfB_dig (l:=s.data.toList) (by omega) h2)
    rw [h2] at hd
    go_enter Tryz.func234,Tryz.ntmps234
    go_wp2_with (go_at_call 261;refine hd.mono ?_;rintro e w' ⟨rfl,rfl⟩)
    go_ret
    exact ⟨ret_bool hw.out.symm,rfl⟩
  · have h2':digB (s[0])=false:=by simpa using h2
    rw [h2'] at hd
    have H2:=Lib.hid h2'
    have HSZ:=Lib.hid hsz
    clear h2 h2' hsz
    go_enter Tryz.func234,Tryz.ntmps234
    go_wp2_with (go_at_call 261;refine hd.mono ?_;rintro e w' ⟨rfl,rfl⟩)
    clear hd
    go_loop [19] (fun i=>∃ k:Nat,k≤s.size∧i=.int .i64 k∧Hid ((s.data.toList.take k).all okB=true)) (fun i=>s.size - (intOf i).toNat)
    case atStart=>exact ⟨0,Nat.zero_le _,rfl,Lib.hid (by simp)⟩
    case round =>
      obtain ⟨k,hk,rfl,HA⟩:=hrel
      by_cases hlt:k<s.size
      · have hl:=let_any (s[k]) w
        have hd:=dig_any (s[k]) w
        have hlen:k<s.data.toList.length:=by rw [HSZ.out];exact hlt
        cases hl1:letB (s[k]) with
        | true =>
          rw [hl1] at hl
          have HN:=Lib.hid (all_take_snoc hlen HA.out (show okB (s[k])=true by simp [okB,hl1]))
          clear hl1 hlen
          go_wp2_with (first | (go_at_call 262;refine hl.mono ?_;rintro e w' ⟨rfl,rfl⟩) | (go_at_call 261;refine hd.mono ?_;rintro e w' ⟨rfl,rfl⟩))
          go_round
          case rel=>exact ⟨k+1,by omega,by go_num,HN⟩
          case measure=>simp [intOf];omega
        | false =>
          rw [hl1] at hl
          cases hd1:digB (s[k]) with
          | true =>
            rw [hd1] at hd
            have HN:=Lib.hid (all_take_snoc hlen HA.out (show okB (s[k])=true by simp [okB,hd1]))
            clear hl1 hd1 hlen
            go_wp2_with (first | (go_at_call 262;refine hl.mono ?_;rintro e w' ⟨rfl,rfl⟩) | (go_at_call 261;refine hd.mono ?_;rintro e w' ⟨rfl,rfl⟩))
            go_round
            case rel=>exact ⟨k+1,by omega,by go_num,HN⟩
            case measure=>simp [intOf];omega
          | false =>
            rw [hd1] at hd
            have HN:=Lib.hid (wfB_bad (l:=s.data.toList) hlen (show okB (s[k])=false by simp [okB,hl1,hd1]))
            clear hl1 hd1 hlen
            go_wp2_with (first | (go_at_call 262;refine hl.mono ?_;rintro e w' ⟨rfl,rfl⟩) | (go_at_call 261;refine hd.mono ?_;rintro e w' ⟨rfl,rfl⟩))
            go_ret
            exact ⟨ret_bool HN.out.symm,rfl⟩
      · have HN:=Lib.hid (wfB_good (l:=s.data.toList) (by rw [HSZ.out];omega) (by rw [HSZ.out];omega) H2.out (by have:=HA.out;rwa [List.take_of_length_le (by rw [HSZ.out];omega)] at this))
        go_wp2
        go_ret
        exact ⟨ret_bool HN.out.symm,rfl⟩
end Go.Proofs.YtpcniebkabkikaaGreatDoor.Bt
namespace Go.Proofs.YtpcniebkabkikaaGreatDoor.Bt
open Go Go.RowKit
def blank64:Array Value:=Array.replicate 64 (.string ByteArray.empty)
theorem mk64 (w:World):(Instr.makeSlice 22 (.int .i64 64) (.int .i64 64)).run Tryz.prog w=.ok (.slice (some ⟨w.heap.size,0,none⟩) 64 64) (w.alloc (.cells blank64 9)):=by kernel_rfl
def StrIn (B:Nat) (w:World) (p:Option Addr) (ns:List ByteArray):Prop :=
  ∀ i,i<ns.length→∃ b off,p=some ⟨b,off,none⟩∧b<B∧w.cell? ⟨b,off+i,none⟩=some (.string (ns.getD i ByteArray.empty))
def gl (ns:List ByteArray):Nat→List ByteArray
  | 0=>List.replicate 64 ByteArray.empty
  | k+1=>if wfB (ns.getD k ByteArray.empty).data.toList && !(Lib.containsS ((gl ns k).take k) (ns.getD k ByteArray.empty)) then (gl ns k).set k (ns.getD k ByteArray.empty) else gl ns k
theorem gl_length (ns:List ByteArray):∀ k,(gl ns k).length=64
  | 0=>by simp [gl]
  | k+1=>by
    have:=gl_length ns k
    unfold gl
    split
    · simpa using this
    · exact this
theorem gl_keep {ns:List ByteArray} {k:Nat} (h:wfB (ns.getD k ByteArray.empty).data.toList=false):gl ns (k+1)=gl ns k:=by
  simp only [gl,h,Bool.false_and,Bool.false_eq_true,if_false]
theorem gl_dup {ns:List ByteArray} {k:Nat} (h:Lib.containsS ((gl ns k).take k) (ns.getD k ByteArray.empty)=true):gl ns (k+1)=gl ns k:=by
  simp only [gl,h,Bool.not_true,Bool.and_false,Bool.false_eq_true,if_false]
theorem gl_set {ns:List ByteArray} {k:Nat} (h:wfB (ns.getD k ByteArray.empty).data.toList=true) (h2:Lib.containsS ((gl ns k).take k) (ns.getD k ByteArray.empty)=false):gl ns (k+1)=(gl ns k).set k (ns.getD k ByteArray.empty):=by
  rw [gl,h,h2];rfl
def GoodAt (W:World) (B:Nat) (zs:List ByteArray):Prop :=
  ∀ j,j<64→W.cell? ⟨B,j,none⟩=some (.string (zs.getD j ByteArray.empty))∧W.frozen? ⟨B,j,none⟩=false
theorem good_start (w:World):GoodAt (w.alloc (.cells blank64 9)) w.heap.size (List.replicate 64 ByteArray.empty):=by
  intro j hj
  constructor
  · rw [World.cell?_alloc_new]
    unfold blank64
    rw [Array.getElem?_replicate,if_pos hj,List.getD_eq_getElem?_getD,List.getElem?_replicate,if_pos hj]
    rfl
  · rw [World.frozen?_alloc_new]
theorem good_store {W:World} {B:Nat} {zs:List ByteArray} (h:GoodAt W B zs) (hl:zs.length=64) {k:Nat} (hk:k<64) (x:ByteArray) :
    GoodAt (W.setCell ⟨B,k,none⟩ (.string x)) B (zs.set k x):=by
  intro j hj
  rw [World.frozen?_setCell]
  refine ⟨?_,(h j hj).2⟩
  by_cases e:k=j
  · subst e
    rw [World.cell?_setCell_same _ _ _ (h k hk).1]
    simp [List.getD,hl,hk]
  · rw [World.cell?_setCell_other _ _ _ _ (by intro h;exact e (by injection h)),(h j hj).1]
    simp [List.getD,List.getElem?_set_ne e]
theorem GoodAt.below {W W':World} {B:Nat} {zs:List ByteArray} (h:GoodAt W B zs) {n:Nat} (hb:Below n W W') (hB:B<n):GoodAt W' B zs:=fun j hj =>
  ⟨(hb.cell (p:=⟨B,j,none⟩) hB).trans (h j hj).1,(hb.frozen (p:=⟨B,j,none⟩) hB).trans (h j hj).2⟩
set_option maxRecDepth 100000 in
set_option maxHeartbeats 1000000 in
theorem good_any (p:Option Addr) (c:Nat) (ns:List ByteArray) (w:World) (hn:ns.length≤maxLen) (hz:∀ i,(ns.getD i ByteArray.empty).size≤maxLen) (hs:StrIn w.heap.size w p ns) :
    Calls Tryz.prog 199 #[.slice p ns.length c] w fun e w'=>e=.returned (.slice (some ⟨w.heap.size,0,none⟩) 64 64)∧GoodAt w' w.heap.size (gl ns (min ns.length 64))∧Below w.heap.size w w'∧w.heap.size<w'.heap.size:=by
  unfold maxLen at hn
  have hmk:=mk64
  obtain ⟨m,hm⟩:∃ m,min ns.length 64=m:=⟨_,rfl⟩
  have hm1:m≤ns.length:=by omega
  have hm2:m≤64:=by omega
  have hmin:min (ns.length:Int) 64=(m:Int):=by omega
  rw [hm]
  clear hm
  go_enter Tryz.func199,Tryz.ntmps199
  go_wp2
  go_loopw [11] (fun i wr=>∃ k:Nat,k≤m∧i=.int .i64 k∧Hid (GoodAt wr w.heap.size (gl ns k))∧Below w.heap.size w wr∧w.heap.size<wr.heap.size)
    (fun i _=>m - (intOf i).toNat)
  case atStart=>exact ⟨0,Nat.zero_le _,rfl,Lib.hid (good_start w),(Below.refl _ _).alloc (Nat.le_refl _) _,by simp⟩
  case round =>
    obtain ⟨k,hk,rfl,HG,hB,hsz⟩:=hrel
    by_cases hlt:k<m
    · obtain ⟨b,off,rfl,hb,hc⟩:=hs k (by omega)
      have hc':=(hB.cell (p:=⟨b,off+k,none⟩) hb).trans hc
      obtain ⟨x,hx⟩:∃ x,ns.getD k ByteArray.empty=x:=⟨_,rfl⟩
      have hxs:=hz k
      rw [hx] at hc' hxs
      have HX:=Lib.hid hx
      clear hx hc hs hz hmk
      have hki:(k:Int)<ns.length:=by omega
      have hwf:∀ q,Calls Tryz.prog 234 #[.string x] (wr.drewN q) fun e w'=>e=.returned (.bool (wfB x.data.toList))∧w'=wr.drewN q:=fun q=>(wf_any x hxs _).mono fun _ _ ⟨a,b⟩=>⟨a,b.symm⟩
      cases hw:wfB x.data.toList with
      | false =>
        rw [hw] at hwf
        have HN:=Lib.hid (gl_keep (ns:=ns) (k:=k) (by rw [HX.out];exact hw))
        have HWF:=Lib.hid hwf
        clear hw hwf
        go_wp2
        go_quiet ((go_at_call 234;exact Calls.quiet_of_same (HWF.out _)))
        go_wp2
        exact ⟨⟨k+1,by omega,by go_num,Lib.hid (by rw [HN.out];exact HG.out),below_drewN hB _,hsz⟩,by simp [intOf];omega⟩
      | true =>
        rw [hw] at hwf
        have hct:∀ q,Calls Tryz.prog 235 #[.slice (some ⟨w.heap.size,0,none⟩) k 64,.string x] (wr.drewN q) fun e w'=>e=.returned (.bool (Lib.containsS ((gl ns k).take k) x))∧w'=wr.drewN q:=fun q =>
          Tryz.slices_Contains_string w.heap.size 0 k 64 (gl ns k) x _ (by rw [gl_length];omega) (by omega) (fun j hj=>by rw [Nat.zero_add];exact (HG.out j (by rw [gl_length] at hj;exact hj)).1)
        cases hct1:Lib.containsS ((gl ns k).take k) x with
        | true =>
          rw [hct1] at hct
          have HN:=Lib.hid (gl_dup (ns:=ns) (k:=k) (by rw [HX.out];exact hct1))
          have HWF:=Lib.hid hwf
          have HCT:=Lib.hid hct
          clear hw hwf hct hct1
          go_wp2
          go_quiet ((first | (go_at_call 234;exact Calls.quiet_of_same (HWF.out _)) | (go_at_call 235;exact Calls.quiet_of_same (HCT.out _))))
          go_wp2
          exact ⟨⟨k+1,by omega,by go_num,Lib.hid (by rw [HN.out];exact HG.out),below_drewN hB _,hsz⟩,by simp [intOf];omega⟩
        | false =>
          rw [hct1] at hct
          have HN:=Lib.hid (gl_set (ns:=ns) (k:=k) (by rw [HX.out];exact hw) (by rw [HX.out];exact hct1))
          have HWF:=Lib.hid hwf
          have HCT:=Lib.hid hct
          obtain ⟨hold,hfz⟩:=HG.out k (by omega)
          clear hw hwf hct hct1
          go_wp2
          go_quiet ((first | (go_at_call 234;exact Calls.quiet_of_same (HWF.out _)) | (go_at_call 235;exact Calls.quiet_of_same (HCT.out _))))
          go_wp2
          exact ⟨⟨k+1,by omega,by go_num,Lib.hid (by rw [HN.out,HX.out];exact good_store (W:=wr.drewN nq) HG.out (gl_length ns k) (by omega) x),(below_drewN hB _).setCell (Nat.le_refl _) _,by rw [World.size_setCell];exact hsz⟩,by simp [intOf];omega⟩
    · have hkm:k=m:=by omega
      have HK:=Lib.hid hkm
      clear hkm
      go_wp2
      go_ret
      refine ⟨rfl,?_,hB,hsz⟩
      rw [← HK.out]
      exact HG.out
end Go.Proofs.YtpcniebkabkikaaGreatDoor.Bt
namespace Go.Proofs.YtpcniebkabkikaaGreatDoor.Bt
open Go Go.RowKit
def numB (k:Nat):List UInt8:=35 :: Lib.decDigits k
theorem cat_mk (a b:List UInt8):(⟨a.toArray⟩:ByteArray)++⟨b.toArray⟩=⟨(a++b).toArray⟩:=by
  apply ByteArray.ext
  rw [ByteArray.data_append]
  simp
theorem dec_short:∀ k:Fin 64,(Lib.decDigits k.val).length≤2:=by
  intro k
  have h:=k.isLt
  unfold Lib.decDigits
  split
  · simp
  · rename_i h1
    unfold Lib.decDigits
    rw [dif_pos (by omega)]
    simp
theorem numbered_any (k:Nat) (hk:k<64) (w:World) :
    Calls Tryz.prog 238 #[.int .i64 (k:Int)] w fun e w'=>e=.returned (.string ⟨(numB k).toArray⟩)∧w=w':=by
  have hc:=same_flip (Tryz.strconv_Itoa_small k (by omega) w)
  have hlen:=dec_short ⟨k,hk⟩
  simp only at hlen
  go_enter Tryz.func238,Tryz.ntmps238
  go_wp2_with (go_at_call 112;refine hc.mono ?_;rintro e w' ⟨rfl,rfl⟩)
  go_ret
  exact ⟨ret_str (cat_mk [35] (Lib.decDigits k)),rfl⟩
def itemB (zs:List ByteArray) (k:Nat):List UInt8:=if (zs.getD k ByteArray.empty).data.toList=[] then numB k else (zs.getD k ByteArray.empty).data.toList
theorem item_any (k B:Nat) (hk:k<64) (zs:List ByteArray) (w:World) (hG:GoodAt w B zs) :
    Calls Tryz.prog 202 #[.int .i64 (k:Int),.slice (some ⟨B,0,none⟩) 64 64] w fun e w'=>e=.returned (.string ⟨(itemB zs k).toArray⟩)∧w=w':=by
  have hc:=(hG k hk).1
  obtain ⟨x,hx⟩:∃ x,zs.getD k ByteArray.empty=x:=⟨_,rfl⟩
  have hn:=numbered_any k hk w
  unfold itemB
  rw [hx] at hc ⊢
  clear hx hG
  by_cases h0:x.data.toList=[]
  · rw [if_pos h0]
    have hx0:x=⟨#[]⟩:=by
      cases x with
      | mk d=>simp at h0;subst h0;rfl
    subst hx0
    clear h0
    go_enter Tryz.func202,Tryz.ntmps202
    go_wp2_with (go_at_call 238;refine hn.mono ?_;rintro e w' ⟨rfl,rfl⟩)
    go_ret
    exact ⟨rfl,rfl⟩
  · rw [if_neg h0]
    have hne:x.toList.isEmpty=false:=by
      rw [Lib.toList_data]
      cases h:x.data.toList with
      | nil=>exact absurd h h0
      | cons _ _=>rfl
    go_enter Tryz.func202,Tryz.ntmps202
    go_wp2_with (go_at_call 238;refine hn.mono ?_;rintro e w' ⟨rfl,rfl⟩)
    go_ret
    exact ⟨ret_str (by simp),rfl⟩
end Go.Proofs.YtpcniebkabkikaaGreatDoor.Bt
namespace Go.Proofs.YtpcniebkabkikaaGreatDoor.Bt
open Go Go.RowKit
theorem sizeB:(Tryz.prog.info? 79).map (·.size)=some 2:=by kernel_rfl
theorem liesB:liesAt Tryz.prog Tryz.prog.depth 79 (2 / Tryz.prog.cellsOf 79) 0 79 1=true:=by kernel_rfl
theorem infoByte:(Tryz.prog.info? 5).map (fun i=>(i.zero,i.size,i.bytes))=some (some (.int .u8 0),1,1):=by kernel_rfl
set_option maxHeartbeats 1000000 in
set_option maxRecDepth 100000 in
theorem check_used (b:Nat) (w:World) (h0:w.cell? ⟨b,0,none⟩=some (.pointer (some ⟨b,0,none⟩))) :
    Calls Tryz.prog 141 #[.pointer (some ⟨b,0,none⟩)] w fun e w'=>e=.returned (.tuple #[])∧w=w':=by
  obtain ⟨j,hj,_⟩:=Option.map_eq_some_iff.1 sizeB
  go_enter Tryz.func141,Tryz.ntmps141
  go_wp2
  rw [Lib.run_neq_ptr_same w _ Tryz.underlying76 hj]
  go_wp2
  go_end0
  exact ⟨rfl,rfl⟩
set_option maxHeartbeats 1000000 in
set_option maxRecDepth 100000 in
theorem check_fresh (b:Nat) (w:World) (h0:w.cell? ⟨b,0,none⟩=some (.pointer none)) (hsh:w.shape? b=some (79,2)) (hfz:w.frozen? ⟨b,0,none⟩=false) :
    Calls Tryz.prog 141 #[.pointer (some ⟨b,0,none⟩)] w fun e w'=>e=.returned (.tuple #[])∧w.setCell ⟨b,0,none⟩ (.pointer (some ⟨b,0,none⟩))=w':=by
  obtain ⟨j,hj,hjs⟩:=Option.map_eq_some_iff.1 sizeB
  go_enter Tryz.func141,Tryz.ntmps141
  go_wp2
  rw [Lib.run_to_unsafe w ⟨b,0,none⟩ Tryz.underlying76 Tryz.underlying219 hj (by rw [hjs];decide) hsh (Nat.zero_lt_succ 1)]
  simp only [Result.andThen]
  rw [Oper.upon_value]
  go_wp2
  rw [run_callFunc_extern Tryz.func179 (by kernel_rfl) (by kernel_rfl) (by kernel_rfl) (e:=Extern.AbiNoEscape.same) (by kernel_rfl)]
  rw [Lib.run_noEscape]
  simp only [Result.andThen]
  rw [Oper.upon_value]
  go_wp2
  rw [Lib.run_from_unsafe w ⟨b,0,none⟩ Tryz.underlying219 Tryz.underlying76 hj hsh liesB]
  simp only [Result.andThen]
  rw [Oper.upon_value]
  go_wp2
  go_end0
  exact ⟨rfl,rfl⟩
theorem check_any (B b:Nat) (bs:List Value) (w:World) (h:Lib.IsBuilderF 79 5 B b bs w) :
    Calls Tryz.prog 141 #[.pointer (some ⟨b,0,none⟩)] w fun e w'=>e=.returned (.tuple #[])∧(Lib.BuilderAtF 79 5 B b (.pointer (some ⟨b,0,none⟩)) bs w'∧Below B w w'∧Lib.OthersKept 5 (some b) w w'):=by
  rcases h with h | h
  · exact (check_fresh b w h.cell0 h.shape h.frozen0).mono fun e w' ⟨he,hw⟩=>by
      subst hw
      exact ⟨he,h.used _,(Below.refl B w).setCell (p:=⟨b,0,none⟩) h.1 _,(Lib.OthersKept.refl _ _ w).setCell ⟨b,0,none⟩ rfl _⟩
  · exact (check_used b w h.cell0).mono fun e w' ⟨he,hw⟩=>by
      subst hw
      exact ⟨he,h,Below.refl B _,Lib.OthersKept.refl _ _ _⟩
theorem heap_lt {w:World} {b:Nat} {o:Obj} (h:w.heap[b]?=some o):b<w.heap.size:=(Array.getElem?_eq_some_iff.1 h).1
set_option maxHeartbeats 2000000 in
set_option maxRecDepth 100000 in
theorem writeByte_any (B b:Nat) (bs:List Value) (c:Int) (w:World) (h:Lib.IsBuilderF 79 5 B b bs w) (hlen:bs.length+1≤140737488355328) (hBw:B≤w.heap.size) :
    Calls Tryz.prog 200 #[.pointer (some ⟨b,0,none⟩),.int .u8 c] w fun e w'=>e=.returned .nilIface∧(Lib.BuilderAtF 79 5 B b (.pointer (some ⟨b,0,none⟩)) (bs++[.int .u8 c]) w'∧Below B w w'∧Lib.OthersKept 5 (some b) w w'):=by
  obtain ⟨i0,hi,hz0,hz1,hz2⟩:=info_parts infoByte
  go_enter Tryz.func200,Tryz.ntmps200
  go_wp2_with (go_at_call 141;refine (check_any B b bs _ h).mono ?_)
  rintro e w1 ⟨rfl,h1,hb1,hk1⟩
  obtain ⟨hB,v,hbk,hown,hne⟩:=h1
  have hlt:=heap_lt hbk
  have c0:w1.cell? ⟨b,0,none⟩=some (.pointer (some ⟨b,0,none⟩)):=by rw [Lib.cell_of_heap hbk];rfl
  have c1:w1.cell? ⟨b,1,none⟩=some v:=by rw [Lib.cell_of_heap hbk];rfl
  go_wp2_with (at_builtin;refine wpList_append_ownF _ rfl _ _ 77 rfl B 5 i0 (.int .u8 0) 1 1 Tryz.underlying77 hi hz0 hz1 hz2 rfl (by decide) _ _ _ rfl (hown.alloc _) ⟨w1.heap.size,0,none⟩ 1 1 [.int .u8 c] rfl rfl ?c1 ?c2 ?c3 ?c4 ?c5 ?_)
  case c1 =>
    intro j u hj
    match j,hj with
    | 0,hj=>simp at hj;subst hj;simp [Addr.add]
  case c2=>intro u hu;simp at hu;subst hu;rfl
  case c3=>unfold maxLen;omega
  case c4=>omega
  case c5=>have:=hb1.size;simp;omega
  intro v' w2 hown' hgrow _
  have hb2:w2.heap[b]?=some (.cells #[.pointer (some ⟨b,0,none⟩),v] 79 (0,0)):=by
    rw [hgrow.block b (by simp;omega) (fun e=>hne e.symm),Lib.alloc_old w1 _ b hlt]
    exact hbk
  have d0:w2.cell? ⟨b,0,none⟩=some (.pointer (some ⟨b,0,none⟩)):=by rw [Lib.cell_of_heap hb2];rfl
  have d1:w2.cell? ⟨b,1,none⟩=some v:=by rw [Lib.cell_of_heap hb2];rfl
  have f1:w2.frozen? ⟨b,1,none⟩=false:=Lib.frozen_of_heap hb2 1
  obtain ⟨g,cap,rfl⟩:∃ g cap,v'=.slice (some ⟨g,0,none⟩) (bs.length+1) cap:=by
    rcases hown'.2 with ⟨_,h0⟩ | ⟨g,cap,cur,fz,hv,_⟩
    · omega
    · exact ⟨g,cap,hv⟩
  go_wp2
  go_ret
  refine ⟨rfl,?_,?_,((hk1.alloc _).grown hgrow (Lib.ownsRowF_kind (hown.alloc _))).setCell ⟨b,1,none⟩ rfl _⟩
  · exact Lib.BuilderAtF.put (T:=79) (e:=5) hB hb2 (bs':=bs++[.int .u8 c]) (by simpa using hown') (by decide)
  · exact ((hb1.alloc (by have:=hb1.size;omega) _).grown hgrow (by have:=hb1.size;simp;omega) (fun k hk=>(hown.lt k hk).1)).setCell (p:=⟨b,1,none⟩) hB _
set_option maxHeartbeats 2000000 in
set_option maxRecDepth 100000 in
theorem writeString_any (B b:Nat) (bs:List Value) (s:ByteArray) (w:World) (h:Lib.IsBuilderF 79 5 B b bs w) (hlen:bs.length+s.size≤140737488355328) (hBw:B≤w.heap.size) :
    Calls Tryz.prog 83 #[.pointer (some ⟨b,0,none⟩),.string s] w fun e w'=>e=.returned (.tuple #[.int .i64 s.size,.nilIface])∧(Lib.BuilderAtF 79 5 B b (.pointer (some ⟨b,0,none⟩)) (bs++Lib.strCells s) w'∧Below B w w'∧Lib.OthersKept 5 (some b) w w'):=by
  obtain ⟨i0,hi,hz0,hz1,hz2⟩:=info_parts infoByte
  go_enter Tryz.func83,Tryz.ntmps83
  go_wp2_with (go_at_call 141;refine (check_any B b bs _ h).mono ?_)
  rintro e w1 ⟨rfl,h1,hb1,hk1⟩
  obtain ⟨hB,v,hbk,hown,hne⟩:=h1
  have hlt:=heap_lt hbk
  have c0:w1.cell? ⟨b,0,none⟩=some (.pointer (some ⟨b,0,none⟩)):=by rw [Lib.cell_of_heap hbk];rfl
  have c1:w1.cell? ⟨b,1,none⟩=some v:=by rw [Lib.cell_of_heap hbk];rfl
  go_wp2_with (at_builtin;refine Lib.wpList_append_own_stringF _ rfl _ _ 77 9 rfl B 5 i0 Tryz.underlying77 Tryz.underlying9 hi hz0 hz1 hz2 _ _ _ rfl hown s rfl ?c3 ?c4 ?c5 ?_)
  case c3=>unfold maxLen;omega
  case c4=>omega
  case c5=>have:=hb1.size;omega
  intro v' w2 hown' hgrow _
  have hb2:w2.heap[b]?=some (.cells #[.pointer (some ⟨b,0,none⟩),v] 79 (0,0)):=by
    rw [hgrow.block b hlt (fun e=>hne e.symm)]
    exact hbk
  have d0:w2.cell? ⟨b,0,none⟩=some (.pointer (some ⟨b,0,none⟩)):=by rw [Lib.cell_of_heap hb2];rfl
  have d1:w2.cell? ⟨b,1,none⟩=some v:=by rw [Lib.cell_of_heap hb2];rfl
  have f1:w2.frozen? ⟨b,1,none⟩=false:=Lib.frozen_of_heap hb2 1
  obtain ⟨ao,n',cap,rfl⟩:∃ ao n' cap,v'=.slice ao n' cap:=by
    rcases hown'.2 with ⟨hv,_⟩ | ⟨g,cap,cur,fz,hv,_⟩
    · exact ⟨_,_,_,hv⟩
    · exact ⟨_,_,_,hv⟩
  go_wp2
  go_ret2
  refine ⟨rfl,?_,?_,(hk1.grown hgrow (Lib.ownsRowF_kind hown)).setCell ⟨b,1,none⟩ rfl _⟩
  · exact Lib.BuilderAtF.put (T:=79) (e:=5) hB hb2 (bs':=bs++Lib.strCells s) (by simpa [Lib.strCells_length] using hown') (by decide)
  · exact (hb1.grown hgrow (by have:=hb1.size;omega) (fun k hk=>(hown.lt k hk).1)).setCell (p:=⟨b,1,none⟩) hB _
end Go.Proofs.YtpcniebkabkikaaGreatDoor.Bt
namespace Go.Proofs.YtpcniebkabkikaaGreatDoor.Bt
open Go Go.RowKit Go.Shelf
attribute [local go_sem] Oper.semAt_some
def textStep (zs:List ByteArray) (acc:List UInt8) (k:Nat):List UInt8:=acc++((if 1<acc.length then [32] else [])++itemB zs k)
def textAcc (zs:List ByteArray) (l:List Nat):List UInt8:=l.foldl (textStep zs) [123]
def textB (zs:List ByteArray) (x:Nat):List UInt8:=textAcc zs (bitsOf x)++[125]
theorem textAcc_snoc (zs:List ByteArray) (l:List Nat) (k:Nat):textAcc zs (l++[k])=textAcc zs l++((if 1<(textAcc zs l).length then [32] else [])++itemB zs k):=by
  simp only [textAcc,List.foldl_append,List.foldl_cons,List.foldl_nil]
  rfl
theorem itemB_short (zs:List ByteArray) (hz:∀ k,(zs.getD k ByteArray.empty).size≤32) (k:Nat) (hk:k<64):(itemB zs k).length≤32:=by
  unfold itemB
  split
  · have:=dec_short ⟨k,hk⟩
    simp only at this
    simp only [numB,List.length_cons];omega
  · rw [← Lib.size_eq];exact hz k
theorem textAcc_short (zs:List ByteArray) (hz:∀ k,(zs.getD k ByteArray.empty).size≤32) (l:List Nat) (hl:∀ k ∈ l,k<64):(textAcc zs l).length≤1+33 * l.length:=by
  have key:∀ (l:List Nat) (acc:List UInt8),(∀ k ∈ l,k<64)→(l.foldl (textStep zs) acc).length≤acc.length+33 * l.length:=by
    intro l
    induction l with
    | nil=>intro acc _;simp
    | cons k l ih =>
      intro acc h
      have h1:=ih (textStep zs acc k) (fun j hj=>h j (by simp [hj]))
      have h2:=itemB_short zs hz k (h k (by simp))
      have h3:(textStep zs acc k).length≤acc.length+33:=by
        unfold textStep
        simp only [List.length_append]
        split <;> simp <;> omega
      simp only [List.foldl_cons,List.length_cons]
      omega
  have:=key l [123] hl
  simpa [textAcc] using this
theorem IsBuilderF.turned {T e:TypeId} {B b:Nat} {bs:List Value} {W W':World} {row:Option Nat} (h:Lib.IsBuilderF T e B b bs W) (hg:W.grownBy W' row)
    (hr:∀ r,row=some r→∃ o:Obj,W.heap[r]?=some o∧o.isCells=false):Lib.IsBuilderF T e B b bs W':=by
  have key:∀ p,Lib.BuilderAtF T e B b p bs W→Lib.BuilderAtF T e B b p bs W':=by
    intro p hp
    have hlt:=hp.lt
    obtain ⟨hB,v,hb,hown,hne⟩:=hp
    refine ⟨hB,v,?_,hown.kept hg ?_,hne⟩
    · refine (hg.block b hlt ?_).trans hb
      intro e'
      obtain ⟨o,ho,hc⟩:=hr b e'.symm
      rw [hb] at ho;cases ho;cases hc
    · rcases hown.2 with ⟨rfl,_⟩ | ⟨g,cap,cur,fz,rfl,_,hgb,_⟩
      · exact .inl rfl
      · refine .inr fun e'=>?_
        obtain ⟨o,ho,hc⟩:=hr g (by simpa [Value.ownBlock] using e'.symm)
        rw [hgb] at ho;cases ho;cases hc
  exact h.elim (fun x=>.inl (key _ x)) (fun x=>.inr (key _ x))
theorem keepsOthers_of {b:Nat} {W W':World} (hs:W.heap.size≤W'.heap.size) (hb:∃ cs T fz,W.heap[b]?=some (.cells cs T fz)) (h:Lib.OthersKept 5 (some b) W W'):KeepsOthers W W' where
  size:=hs
  same:=fun k o hk ho=>by
    refine h k o hk ?_ ?_
    · intro e
      obtain ⟨cs,T,fz,hc⟩:=hb
      obtain rfl:k=b:=by injection e
      rw [hc] at hk;cases hk;cases ho
    · intro c fz e
      subst e
      cases ho
theorem IsBuilderF.is_cells {T e:TypeId} {B b:Nat} {bs:List Value} {W:World} (h:Lib.IsBuilderF T e B b bs W):∃ cs T' fz,W.heap[b]?=some (.cells cs T' fz):=by
  rcases h with ⟨_,v,hb,_⟩ | ⟨_,v,hb,_⟩
  · exact ⟨_,_,_,hb⟩
  · exact ⟨_,_,_,hb⟩
set_option maxRecDepth 100000 in
set_option maxHeartbeats 2000000 in
theorem text_any (x:Nat) (hx:x<18446744073709551616) (p:Option Addr) (c:Nat) (ns:List ByteArray) (w:World) (hn:ns.length≤maxLen) (hz:∀ i,(ns.getD i ByteArray.empty).size≤maxLen) (hs:StrIn w.heap.size w p ns)
    (hT:TabAt 2 Lib.deBruijn64tab w) (h8:7≤w.heap.size) (hshort:∀ k,((gl ns (min ns.length 64)).getD k ByteArray.empty).size≤32) :
    Calls Tryz.prog 162 #[.int .u64 (x:Int),.slice p ns.length c] w fun e w'=>e=.returned (.string ⟨(textB (gl ns (min ns.length 64)) x).toArray⟩)∧Below w.heap.size w w':=by
  have hgood:=good_any p c ns w hn hz hs
  generalize gl ns (min ns.length 64)=zs at hgood hshort ⊢
  refine (callsIn_wide (n:=3)).1 ?_
  refine callsIn_of_wp_marks Tryz.func162 rfl trivial ?_ rfl
  simp only [Tryz.ntmps162,List.size_toArray,List.length_cons,List.length_nil,Nat.reduceAdd,Nat.reduceSub,Array.replicate_succ,Array.replicate_zero,List.push_toArray,List.append_toArray,List.nil_append,List.cons_append]
  gi_wp2_with (refine ⟨trivial,?_⟩;gi_at_call 199;refine (callsIn_wide.2 hgood).mono ?_;rintro e w1 ⟨rfl,hG,hB1,hs1⟩)
  have hI0:Lib.IsBuilderF 79 5 (w1.heap.size+1) (w1.heap.size+1) [] ((w1.alloc (.cells #[.slice (some ⟨w.heap.size,0,none⟩) 64 64] 22)).alloc (.cells #[.pointer none,.slice none 0 0] 79)):=by
    have:=Lib.IsBuilderF.of (Lib.fresh_isBuilder 79 5 (w1.alloc (.cells #[.slice (some ⟨w.heap.size,0,none⟩) 64 64] 22)))
    rwa [World.size_alloc] at this
  refine ⟨trivial,?_⟩
  gi_at_call 200
  refine (callsIn_wide.2 (writeByte_any (w1.heap.size+1) (w1.heap.size+1) [] 123 _ hI0 (by simp) (by simp))).mono ?_
  rintro e w3 ⟨rfl,hI1,hB3,hO3⟩
  have hBox:((w1.alloc (.cells #[.slice (some ⟨w.heap.size,0,none⟩) 64 64] 22)).alloc (.cells #[.pointer none,.slice none 0 0] 79)).cell? ⟨w1.heap.size,0,none⟩=some (.slice (some ⟨w.heap.size,0,none⟩) 64 64):=by
    rw [World.cell?_alloc_lt _ _ _ (by simp),World.cell?_alloc_new];rfl
  have hG2:GoodAt ((w1.alloc (.cells #[.slice (some ⟨w.heap.size,0,none⟩) 64 64] 22)).alloc (.cells #[.pointer none,.slice none 0 0] 79)) w.heap.size zs :=
    hG.below (((Below.refl w1.heap.size w1).alloc (Nat.le_refl _) _).alloc (by simp) _) hs1
  have hB2:Below w.heap.size w ((w1.alloc (.cells #[.slice (some ⟨w.heap.size,0,none⟩) 64 64] 22)).alloc (.cells #[.pointer none,.slice none 0 0] 79)) :=
    (hB1.alloc (by omega) _).alloc (by simp;omega) _
  have hsz2:((w1.alloc (.cells #[.slice (some ⟨w.heap.size,0,none⟩) 64 64] 22)).alloc (.cells #[.pointer none,.slice none 0 0] 79)).heap.size=w1.heap.size+1+1:=by simp
  generalize ((w1.alloc (.cells #[.slice (some ⟨w.heap.size,0,none⟩) 64 64] 22)).alloc (.cells #[.pointer none,.slice none 0 0] 79))=w2 at hBox hG2 hB2 hsz2 hB3 hO3
  have hs3:=hB3.size
  rw [hsz2] at hs3
  have hBoxB:=(hB3.cell (p:=⟨w1.heap.size,0,none⟩) (by simp)).trans hBox
  have hG3:=hG2.below hB3 (by omega)
  have hB13:=hB2.trans (hB3.mono (by omega))
  have hT3:=tab_below (by omega) hB13 hT
  clear hBox hG2 hB2 hB3 hO3 hG hB1 hgood hT hs hz hI0 hsz2
  generalize hbb:w1.heap.size=b at *
  gi_wp2_with (refine ⟨trivial,?_⟩;gi_at_call 201;refine (callsIn_wide.2 (each_any x w3)).mono ?_;rintro e w' ⟨rfl,rfl⟩)
  have hBuild:Lib.IsBuilderF 79 5 (b+1) (b+1) (Lib.byteCells (textAcc zs [])) w3:=Or.inr hI1
  refine wpIn_rangeFunc_ownF rfl (by omega) (gf:=236) (lb:=#[.pointer (some ⟨w3.heap.size,0,none⟩)]) rfl trivial (enters_of Tryz.func236 (by kernel_rfl) rfl)
    (each_stops (3 - 1) w3.heap.size (b+1) x (by omega) hx _ (by simp;omega) (by simp) (tab_below (n₀:=w3.heap.size) (by omega) ((Below.refl _ _).alloc (Nat.le_refl _) _) hT3) (by rw [World.cell?_alloc_new];rfl)) belowK_t (belowK_b (by simp;omega)) (Below.refl _ _) (fun _=>rfl)
    (fun pre W=>Lib.IsBuilderF 79 5 (b+1) (b+1) (Lib.byteCells (textAcc zs (pre.map (·.val)))) W∧Below (b+1) w3 W)
    (fun _ _ _=>False)
    (OwnFrom.and (fun s A B row hs hg hr=>IsBuilderF.turned hs hg (fun r e=>(hr r e).2)) (ownFrom_below (by omega) (by simp;omega)))
    (fun _ _ _ _ _ hs _ _=>hs)
    ⟨hBuild.alloc _,(Below.refl _ _).alloc (by omega) _⟩
    (fun k=>{ tmps:=#[.int .u64 (x:Int),.slice p ns.length c,undef,undef,.string ⟨#[]⟩,.pointer (some ⟨b,0,none⟩),.pointer (some ⟨b+1,0,none⟩),.int .i64 (k.val:Int),.slice p ns.length c,.slice (some ⟨w.heap.size,0,none⟩) 64 64,.nilIface,.int .u64 (x:Int),.func (.func 236) #[] #[.pointer (some ⟨w3.heap.size,0,none⟩)],.int .i64 (k.val:Int),undef,undef,undef,undef,undef,undef,undef,undef,undef],defers:=[] }) ?assign ?body ?done ?stop
  case assign =>
    intro l k W K hK
    gi_wp2
    exact hK
  case body =>
    rintro l pre k W ⟨hIb,hBW⟩ hlt
    have hlen:=same_flip (Tryz.Builder_Len_f (b+1) (b+1) _ W hIb)
    have hacc:=textAcc_short zs hshort (pre.map (·.val)) (fun j hj=>by obtain ⟨q,_,rfl⟩:=List.mem_map.1 hj;exact q.2)
    rw [List.length_map] at hacc
    rw [Lib.byteCells_length] at hlen
    have hstep:=textAcc_snoc zs (pre.map (·.val)) k.val
    have hbW:b+1≤W.heap.size:=by have:=hBW.size;omega
    have hits:=itemB_short zs hshort k.val k.2
    generalize textAcc zs (pre.map (·.val))=acc at hIb hlen hacc hstep
    by_cases hgt:1<acc.length
    · have hw1:=writeByte_any (b+1) (b+1) (Lib.byteCells acc) 32 W hIb (by rw [Lib.byteCells_length];omega) hbW
      rw [if_pos hgt] at hstep
      have HSTEP:=Lib.hid hstep
      clear hstep
      gi_wp2_with (refine ⟨trivial,?_⟩;gi_at_call 103;refine (CallsIn.inRound l (callsIn_wide.2 hlen)).mono ?_;rintro e w' ⟨rfl,rfl⟩)
      refine ⟨trivial,?_⟩
      gi_at_call 200
      refine (CallsIn.inRound l (callsIn_wide.2 hw1)).mono ?_
      rintro e W1 ⟨rfl,hI1',hb1,ho1⟩
      have hBW1:=hBW.trans hb1
      have hbox:=(hBW1.cell (p:=⟨b,0,none⟩) (by simp)).trans hBoxB
      have hitem:=item_any k.val w.heap.size k.2 zs W1 (hG3.below hBW1 (by omega))
      have hI2':Lib.IsBuilderF 79 5 (b+1) (b+1) (Lib.byteCells acc++[.int .u8 32]) W1:=Or.inr hI1'
      have hw2:=writeString_any (b+1) (b+1) (Lib.byteCells acc++[.int .u8 32]) ⟨(itemB zs k.val).toArray⟩ W1 hI2' (by rw [List.length_append,Lib.byteCells_length];simp [ByteArray.size];omega) (by have:=hb1.size;omega)
      gi_wp2_with (refine ⟨trivial,?_⟩;gi_at_call 202;refine (CallsIn.inRound l (callsIn_wide.2 hitem)).mono ?_;rintro e w' ⟨rfl,rfl⟩)
      refine ⟨trivial,?_⟩
      gi_at_call 83
      refine (CallsIn.inRound l (callsIn_wide.2 hw2)).mono ?_
      rintro e W2 ⟨rfl,hI3',hb2,ho2⟩
      gi_wp2
      have hcells:Lib.byteCells (textAcc zs ((pre++[k]).map (·.val)))=Lib.byteCells acc++[.int .u8 32]++Lib.strCells ⟨(itemB zs k.val).toArray⟩:=by
        rw [List.map_append]
        show Lib.byteCells (textAcc zs (pre.map (·.val)++[k.val]))=_
        rw [HSTEP.out]
        simp [Lib.byteCells,Lib.strCells]
      exact ⟨(keepsOthers_of hb1.size (IsBuilderF.is_cells hIb) ho1).trans (keepsOthers_of hb2.size (IsBuilderF.is_cells hI2') ho2),hb1.trans hb2,by rw [hcells];exact Or.inr hI3',hBW1.trans hb2⟩
    · rw [if_neg hgt] at hstep
      have HSTEP:=Lib.hid hstep
      clear hstep
      have hbox:=(hBW.cell (p:=⟨b,0,none⟩) (by simp)).trans hBoxB
      have hitem:=item_any k.val w.heap.size k.2 zs W (hG3.below hBW (by omega))
      have hw2:=writeString_any (b+1) (b+1) (Lib.byteCells acc) ⟨(itemB zs k.val).toArray⟩ W hIb (by rw [Lib.byteCells_length];simp [ByteArray.size];omega) hbW
      gi_wp2_with (first | (refine ⟨trivial,?_⟩;gi_at_call 103;refine (CallsIn.inRound l (callsIn_wide.2 hlen)).mono ?_;rintro e w' ⟨rfl,rfl⟩) | (refine ⟨trivial,?_⟩;gi_at_call 202;refine (CallsIn.inRound l (callsIn_wide.2 hitem)).mono ?_;rintro e w' ⟨rfl,rfl⟩))
      refine ⟨trivial,?_⟩
      gi_at_call 83
      refine (CallsIn.inRound l (callsIn_wide.2 hw2)).mono ?_
      rintro e W2 ⟨rfl,hI3',hb2,ho2⟩
      gi_wp2
      have hcells:Lib.byteCells (textAcc zs ((pre++[k]).map (·.val)))=Lib.byteCells acc++Lib.strCells ⟨(itemB zs k.val).toArray⟩:=by
        rw [List.map_append]
        show Lib.byteCells (textAcc zs (pre.map (·.val)++[k.val]))=_
        rw [HSTEP.out]
        simp [Lib.byteCells,Lib.strCells]
      exact ⟨keepsOthers_of hb2.size (IsBuilderF.is_cells hIb) ho2,hb2,by rw [hcells];exact Or.inr hI3',hBW.trans hb2⟩
  case done =>
    rintro D ys W hD hS ⟨hIb,hBW⟩ hK
    rw [hS] at hIb
    have hbW:b+1≤W.heap.size:=by have:=hBW.size;omega
    have hacc:=textAcc_short zs hshort (bitsOf x) (bitsOf_lt x)
    have hl64:=bitsOf_length x
    have hle:=popN_le 64 x
    have hD':b+1<D:=by simp at hD;omega
    have HT:=Lib.hid (show textB zs x=textAcc zs (bitsOf x)++[125] from rfl)
    generalize textAcc zs (bitsOf x)=acc at hIb hacc HT
    have hw1:=writeByte_any (b+1) (b+1) (Lib.byteCells acc) 125 W hIb (by rw [Lib.byteCells_length];omega) hbW
    gi_wp2_with fail
    refine ⟨trivial,?_⟩
    gi_at_call 200
    refine (callsIn_wide.2 hw1).mono ?_
    rintro e W1 ⟨rfl,hI1',hb1,ho1⟩
    have hk1:=keepsOthers_of hb1.size (IsBuilderF.is_cells hIb) ho1
    have hI2':Lib.IsBuilderF 79 5 (b+1) (b+1) (Lib.byteCells (acc++[125])) W1:=by
      have:Lib.byteCells (acc++[125])=Lib.byteCells acc++[.int .u8 125]:=by simp [Lib.byteCells]
      rw [this];exact Or.inr hI1'
    have hst:=Tryz.Builder_String_any_k (b+1) (b+1) (acc++[125]) W1 hI2' (by have:=hb1.size;omega)
    gi_wp2_with fail
    refine ⟨trivial,?_⟩
    gi_at_call 34
    refine (callsIn_wide.2 hst).mono ?_
    rintro e W2 ⟨rfl,hI3',hb2,ho2⟩
    have hk2:=keepsOthers_of hb2.size (IsBuilderF.is_cells hI2') ho2
    have hK2:=hk2.same D _ (hk1.same D _ hK rfl) rfl
    gi_wp2
    refine ⟨by simp,.inl ⟨_,_,rfl,run_takeDeferred hK2,?_⟩⟩
    refine ⟨_,results_tmp rfl _ _ _,?_,?_⟩
    · exact ret_str (by rw [HT.out])
    · exact (hB13.trans ((hBW.trans (hb1.trans hb2)).mono (by omega))).trans (belowK_b (w:=w) (Nat.le_refl _) W2 D _ _ (by omega) hK2 rfl rfl)
  case stop =>
    rintro D cc pre W _ _ h _
    exact h.elim
end Go.Proofs.YtpcniebkabkikaaGreatDoor.Bt
namespace Go.Proofs.YtpcniebkabkikaaGreatDoor
open Go
open Go.Proofs.Syn (Tm opLv opMark unMark opLv_le)
structure DeZ where
  name:ByteArray
  label:Nat
deriving DecidableEq
structure ArZ where
  name:ByteArray
  len:Int
  label:Nat
deriving DecidableEq
deriving instance DecidableEq for TmZ
deriving instance DecidableEq for StZ
structure FnZ where
  name:ByteArray
  level:Nat
  params:List DeZ
  results:List Nat
  vars:List DeZ
  body:List StZ
deriving DecidableEq
structure SoZ where
  principals:List ByteArray
  globals:List DeZ
  arrays:List ArZ
  channels:List DeZ
  funcs:List FnZ
deriving DecidableEq
def dgN (n:Nat):List Nat:=(Lib.decDigits n).map UInt8.toNat
def itN (n:Int):List Nat:=if n<0 then 45 :: dgN n.natAbs else dgN n.natAbs
def wantZ (t:TmZ):Nat:=if t.kind=5 then 2 else if t.kind=3 ∨ t.kind=4 then 1 else 0
def rightZ (t:TmZ):Bool :=
  if t.kind=1 then decide (0≤t.value) && t.name.toList.isEmpty
  else if t.kind=2 ∨ t.kind=3 then decide (t.value=0) && isL (bl t.name) == 1
  else if t.kind=4 then decide (15≤t.value∧t.value≤17) && t.name.toList.isEmpty
  else if t.kind=5 then decide (1≤t.value∧t.value≤14) && t.name.toList.isEmpty
  else false
def wholeF:List TmZ→Nat→Option Nat
  | [],n=>some n
  | t :: l,n=>if rightZ t && decide (wantZ t≤n) then wholeF l (n - wantZ t+1) else none
def wholeZ (l:List TmZ):Bool:=wholeF l 0 == some 1
def tmN (t:TmZ):Tm:=⟨t.kind.toNat,t.value.toNat,bl t.name⟩
def textZ (l:List TmZ):List Nat:=match goX dgN (l.map tmN) [] with
  | some [x]=>x.1
  | _=>[]
def exZ (l:List TmZ):List Nat:=if wholeZ l then textZ l else []
def lvZ (l:List TmZ):Int:=if wholeZ l then (match l.getLast? with | some t=>(lvT (tmN t):Int) | none=>-1) else -1
def sepZ {α:Type} (s:List Nat) (f:α→List Nat):List α→List Nat
  | []=>[]
  | x :: l=>f x++l.flatMap fun y=>s++f y
theorem sepZ_snoc {α:Type} (s:List Nat) (f:α→List Nat) (l:List α) (x:α):sepZ s f (l++[x])=sepZ s f l++((if l.length=0 then [] else s)++f x):=by
  cases l with
  | nil=>simp [sepZ]
  | cons y l=>simp [sepZ]
def lbZ (ns:List ByteArray) (l:Nat):List Nat:=(Bt.textB (Bt.gl ns (min ns.length 64)) l).map UInt8.toNat
def declZ (ns:List ByteArray) (d:DeZ):List Nat:=bl d.name++32 :: lbZ ns d.label
def exAt (x:StZ) (k:Nat):List Nat:=match x.exprs[k]? with
  | some e=>exZ e
  | none=>[]
def tgZ (x:StZ):List Nat:=sepZ [44,32] bl x.targets
def exsZ (x:StZ):List Nat:=sepZ [44,32] exZ x.exprs
def lineZ (x:StZ):List Nat :=
  if x.kind=1 then tgZ x++([32,61,32]++(exAt x 0++[59]))
  else if x.kind=2 then bl x.name++([91]++(exAt x 0++([93,32,61,32]++(exAt x 1++[59]))))
  else if x.kind=3 then [115,101,110,100,32]++(bl x.name++([32]++(exAt x 0++[59])))
  else if x.kind=4 then (if x.targets.length=0 then [] else tgZ x++[32,61,32])++(bl x.name++([40]++(exsZ x++[41,59])))
  else if x.kind=5 then [105,102,32]++(exAt x 0++[32,123])
  else if x.kind=6 then [125,32,101,108,115,101,32,123]
  else if x.kind=7 then [119,104,105,108,101,32]++(exAt x 0++[32,123])
  else if x.kind=8 then [125]
  else [114,101,116,117,114,110]++((if x.exprs.length=0 then [] else [32]++exsZ x)++[59])
def stZ (d:Int) (x:StZ):List Nat:=if x.kind<1 ∨ 9<x.kind then [] else List.replicate (2 * d.toNat) 32++(lineZ x++[10])
def dpZ (d:Int) (x:StZ):Int:=if x.kind=6 ∨ x.kind=8 then d - 1 else d
def nxZ (d:Int) (x:StZ):Int:=if x.kind=5 ∨ x.kind=7 then d+1 else if x.kind=8 then d - 1 else d
def bodyZ:Int→List StZ→List Nat
  | _,[]=>[]
  | d,x :: l=>stZ (dpZ d x) x++bodyZ (nxZ d x) l
def depZ:Int→List StZ→Int
  | d,[]=>d
  | d,x :: l=>depZ (nxZ d x) l
theorem depZ_snoc (x:StZ):∀ (l:List StZ) (d:Int),depZ d (l++[x])=nxZ (depZ d l) x
  | [],_=>rfl
  | _ :: l,_d=>depZ_snoc x l _
theorem bodyZ_snoc (x:StZ):∀ (l:List StZ) (d:Int),bodyZ d (l++[x])=bodyZ d l++stZ (dpZ (depZ d l) x) x
  | [],d=>by simp [bodyZ,depZ]
  | y :: l,d=>by rw [List.cons_append,bodyZ,bodyZ,bodyZ_snoc x l,depZ,List.append_assoc]
theorem depZ_le:∀ (l:List StZ) (d:Int),depZ d l≤d+l.length∧d - l.length≤depZ d l
  | [],d=>by simp [depZ]
  | x :: l,d=>by
    have:=depZ_le l (nxZ d x)
    have h:nxZ d x≤d+1∧d - 1≤nxZ d x:=by unfold nxZ;split <;> (try split) <;> omega
    rw [depZ,List.length_cons];omega
def kdZ (s:List Nat) (ns:List ByteArray) (d:DeZ):List Nat:=s++(declZ ns d++[59,10])
def fnZ (ns:List ByteArray) (f:FnZ):List Nat :=
  [102,117,110,99,32]++(declZ ns ⟨f.name,f.level⟩++([32,40]++(sepZ [44,32] (declZ ns) f.params++([41,32,40]++(sepZ [44,32] (lbZ ns) f.results++([41,32,123,10]++(f.vars.flatMap (kdZ [32,32,118,97,114,32] ns)++(bodyZ 1 f.body++[125,10]))))))))
def arZ (ns:List ByteArray) (a:ArZ):List Nat:=[97,114,114,97,121,32]++(bl a.name++([32]++(itN a.len++([32]++(lbZ ns a.label++[59,10])))))
def soZ (s:SoZ):List Nat :=
  (if s.principals.length=0 then [] else [112,114,105,110,99,105,112,97,108,32]++(sepZ [32] bl s.principals++[59,10])) ++
    (s.globals.flatMap (kdZ [103,108,111,98,97,108,32] s.principals)++(s.arrays.flatMap (arZ s.principals)++(s.channels.flatMap (kdZ [99,104,97,110,110,101,108,32] s.principals)++s.funcs.flatMap (fnZ s.principals))))
end Go.Proofs.YtpcniebkabkikaaGreatDoor
namespace Go.Proofs.YtpcniebkabkikaaGreatDoor
open Go Go.RowKit Go.Proofs.Mm
def lvTab:List Nat:=[0,4,4,5,5,5,2,1,1,3,3,0,0,0,0,6,6,6]
structure EnvP (w:World):Prop where
  lex:Env w
  lev:∀ j,j<18→w.cell? ⟨0,j,none⟩=some (.int .i64 (lvTab.getD j 0:Nat))
  pow : Lib.TabIs Tryz.prog w "internal/strconv.uint64pow10" .u64 Lib.pow10Tab
  tz:TabAt 2 Lib.deBruijn64tab w
  lt:6<w.heap.size
theorem gPow : Tryz.prog.globalNamed "internal/strconv.uint64pow10" = some 1 := by kernel_rfl
theorem tabIs_below {B : Nat} {w w' : World} (h : Lib.TabIs Tryz.prog w "internal/strconv.uint64pow10" .u64 Lib.pow10Tab) (hb : Below B w w') (hB : 6 < B) : Lib.TabIs Tryz.prog w' "internal/strconv.uint64pow10" .u64 Lib.pow10Tab := by
  unfold Lib.TabIs World.var? at *
  rw [gPow] at h ⊢
  simp only [Option.bind_some] at h ⊢
  rw [hb.block 1 (by omega)]
  exact h
theorem EnvP.below {B:Nat} {w w':World} (h:EnvP w) (hb:Below B w w') (hB:6<B):EnvP w' :=
  ⟨h.lex.below hb (by show 6<B;omega),fun j hj=>(hb.cell (p:=⟨0,j,none⟩) (by show 0<B;omega)).trans (h.lev j hj),tabIs_below h.pow hb hB,Bt.tab_below (by show 2<B;omega) hb h.tz,Nat.lt_of_lt_of_le h.lt hb.size⟩
theorem EnvP.all {w w':World} (h:EnvP w) (hb:Below w.heap.size w w'):EnvP w':=h.below hb h.lt
end Go.Proofs.YtpcniebkabkikaaGreatDoor
