/- plain of the parser: what a unary expression's operand is. slices.Backward's sequence over a row of numbers. unary of the parser: operations, then what they are of, told backward. unary of the parser, walked. -/
import Derived.Test.YtlpdjfimefjmcaaGreatDoorFlOpenPR24
import Derived.OwnWalkIn
import Derived.RangeFuncCalls
import Derived.RangeFuncLeaves
import Derived.LoopNIn
import Derived.LoopIn
import Derived.Maps.OwnIn
open Go.Lib (hid)
namespace Go.Proofs.YtlpdjfimefjmcaaGreatDoor.Q
open Go Go.RowKit Go.Proofs.Mm
def EOk (ys:List It) (len bp bw:Nat) (vp:Value) (d:Nat) (e:Option (Nat→Syn.R (List Syn.Tm))):Prop :=
 (d=12∧e=none)∨(d<12∧∃r,e=some r∧Syn.Cnt r∧Syn.FitP ys.length r∧RdT ys len bp bw vp 184 (fun v=>#[.pointer (some ⟨bp,0,none⟩),v,.int .i64 ((d:Int)+1)]) (fun _=>True) r)
theorem EOk.cnt {ys:List It} {len bp bw d:Nat} {vp:Value} {e:Option (Nat→Syn.R (List Syn.Tm))} (h:EOk ys len bp bw vp d e):∀p,e=some p→Syn.Cnt p:=by
 rcases h with ⟨_,rfl⟩|⟨_,r,rfl,h,_⟩
 ·intro p hp;cases hp
 ·intro p hp;cases hp;exact h
theorem EOk.fit {ys:List It} {len bp bw d:Nat} {vp:Value} {e:Option (Nat→Syn.R (List Syn.Tm))} (h:EOk ys len bp bw vp d e):∀p,e=some p→Syn.FitP ys.length p:=by
 rcases h with ⟨_,rfl⟩|⟨_,r,rfl,_,h,_⟩
 ·intro p hp;cases hp
 ·intro p hp;cases hp;exact h
theorem tk_nones (ys:List It):∀i,ys.length≤i→Tk ys i=none:=fun _ h=>Tk_none h
theorem lt_of_is {ys:List It} {i:Nat} {s:List Nat} (h:Syn.is (Tk ys) i s=true):i<ys.length:=Syn.is_lt (tk_nones ys) h
theorem lt_of_named {ys:List It} {i:Nat} (h:Syn.named (Tk ys) i=true):i<ys.length:=Syn.named_lt (tk_nones ys) h
theorem brack_g {T:Nat→Option Syn.K} (e:Option (Nat→Syn.R (List Syn.Tm))) (g:List Syn.Tm→List Syn.Tm) (s:List Nat) (i:Nat) :
 Syn.brack T e g s i=(Syn.brack T e (fun l=>l) s i).on fun l j=>.ok (g l,j):=by
 unfold Syn.brack
 cases e with
 | none=>rfl
 | some r =>
  simp only
  cases r (i+1) with
  | error q=>rfl
  | ok q =>
   simp only [Syn.R.on]
   cases Syn.want T q.2 s with
   | error q=>rfl
   | ok q=>rfl
def isNum (T:Nat→Option Syn.K) (i:Nat):Bool:=match T i with | some k=>k.kind == 3 | none=>false
theorem num_kind (ys:List It) (len i:Nat):(((tk ys len i).k:Int) == 3)=isNum (Tk ys) i:=by
 by_cases h:i<ys.length
 ·unfold isNum;rw [Tk_some (len:=len) h];simp only [keyOf];rw [Bool.eq_iff_iff,beq_iff_eq,beq_iff_eq];omega
 ·rw [tk_end ys len (by omega)];unfold isNum;rw [Tk_none (by omega)];rfl
theorem lt_of_num {ys:List It} {i:Nat} (h:isNum (Tk ys) i=true):i<ys.length:=by
 rcases Nat.lt_or_ge i ys.length with q|q
 ·exact q
 ·rw [isNum,Tk_none q] at h;cases h
theorem atom_num {ys:List It} (len:Nat) {i:Nat} (e:Option (Nat→Syn.R (List Syn.Tm))) (h:isNum (Tk ys) i=true):Syn.atom (Tk ys) e i=.ok ([⟨1,(tk ys len i).v,[]⟩],i+1):=by
 have hi:=lt_of_num h
 unfold isNum at h
 unfold Syn.atom
 rw [Tk_some (len:=len) hi] at h ⊢
 exact if_pos (by simpa using h)
theorem atom_rest {ys:List It} {i:Nat} (e:Option (Nat→Syn.R (List Syn.Tm))) (h:isNum (Tk ys) i=false):Syn.atom (Tk ys) e i=if Syn.is (Tk ys) i [40] then Syn.brack (Tk ys) e (fun l=>l) [41] i else Syn.atomN (Tk ys) e i:=by
 unfold isNum at h
 unfold Syn.atom
 cases hT:Tk ys i with
 | none =>
  simp only [Syn.is,hT,Bool.false_eq_true,if_false,Syn.atomN,Syn.name,Syn.R.on]
 | some k =>
  rw [hT] at h
  simp only
  rw [if_neg (by simpa using h)]
theorem name_no {ys:List It} {i:Nat} (h:Syn.named (Tk ys) i=false):Syn.name (Tk ys) i=.error (50,i):=by
 unfold Syn.named at h
 unfold Syn.name
 cases hT:Tk ys i with
 | none=>rfl
 | some k=>rw [hT] at h;exact if_neg (by simpa using h)
theorem name_yes {ys:List It} (len:Nat) {i:Nat} (h:Syn.named (Tk ys) i=true):Syn.name (Tk ys) i=.ok (bl (tk ys len i).t,i+1):=by
 have hi:=lt_of_named h
 unfold Syn.named at h
 unfold Syn.name
 rw [Tk_some (len:=len) hi] at h ⊢
 exact if_pos (by simpa using h)
section
variable {ys:List It} {len bp bw i:Nat} {vp:Value} {w:World}
theorem bracketed_any (hw:Ws ys) (h:PS ys len bp bw vp w i) (hi:i<ys.length) {d:Nat} {e:Option (Nat→Syn.R (List Syn.Tm))} (he:EOk ys len bp bw vp d e) (s:ByteArray) (hs:Mk (bl s)=true) {v:Value} {l0:List Syn.Tm} (hr:TR w v l0) (hb:l0.length+(ys.length - i)≤131072) :
 Calls Tryz.prog 209 #[.pointer (some ⟨bp,0,none⟩),.string s,v,.int .i64 (d:Int)] w (Ret ys len (TS bp v) w (Syn.brack (Tk ys) e (fun l=>l) (bl s) i) (TOk ys len bp bw vp l0 v w)):=by
 rcases he with ⟨rfl,rfl⟩|⟨hd,r,rfl,_,_,hR⟩
 ·exact (bracketed_deep h s v (TS bp v)).mono fun e w' ⟨h1,h2⟩=>⟨h2,h1⟩
 ·exact bracketed_some hw h hi hd s hs hR hr hb
theorem name_one (h:PS ys len bp bw vp w i) (hn:Syn.named (Tk ys) i=true):Calls Tryz.prog 144 #[.pointer (some ⟨bp,0,none⟩)] w fun e w'=>e=.returned (.string (tk ys len i).t)∧Chg (fun k=>k=bp) w w'∧PS ys len bp bw vp w' (i+1):=by
 have h1:=name_ps h
 rw [name_yes len hn] at h1
 refine h1.mono fun e w' ⟨a,b,c⟩=>⟨by rw [b,sb_bl],a,c⟩
theorem name_none (h:PS ys len bp bw vp w i) (hn:Syn.named (Tk ys) i=false) (S:Nat→Prop) (hS:S bp):Calls Tryz.prog 144 #[.pointer (some ⟨bp,0,none⟩)] w fun e w'=>e=.panicked (gv 50 ((tk ys len i).a:Nat))∧Chg S w w':=by
 have h1:=name_ps h
 rw [name_no hn] at h1
 exact h1.mono fun e w' ⟨a,b⟩=>⟨b,a.mono fun _ q=>.inl (by subst q;exact hS)⟩
attribute [local go_sem] tok_text tok_value
set_option maxRecDepth 100000 in
theorem plain_num (h:PS ys len bp bw vp w i) (hn:isNum (Tk ys) i=true) (d:Int) {v:Value} {l0:List Syn.Tm} (hr:TR w v l0) (hb:l0.length+(ys.length - i)≤131072) :
 Calls Tryz.prog 203 #[.pointer (some ⟨bp,0,none⟩),v,.int .i64 d] w fun e w'=>Chg (TS bp v) w w'∧TOk ys len bp bw vp l0 v w [⟨1,(tk ys len i).v,[]⟩] (i+1) e w':=by
 have hi:=lt_of_num hn
 obtain ⟨i0,hi0,hz0,hz1,hz2⟩:=infoTm
 have h1:=isKind_ps h 3
 rw [num_kind,hn] at h1
 have ht:=take_ps h hi
 go_enter Tryz.func203,Tryz.ntmps203
 go_wp2_with (go_at_call 167;refine h1.mono ?_;rintro e w' ⟨rfl,rfl⟩)
 go_at_call 140
 refine ht.mono ?_
 rintro e w1 ⟨rfl,hc1,hp1⟩
 have hr1:=tr_next h hr hc1
 go_wp2_with (at_builtin;refine wpList_append_own_at _ rfl _ _ 97 rfl 0 140 i0 _ 3 32 Tryz.underlying97 hi0 hz0 hz1 hz2 rfl (by decide) _ _ _ rfl (hr1.alloc _) ⟨w1.heap.size,0,none⟩ 1 1 (tmC ⟨1,(tk ys len i).v,[]⟩) rfl rfl (tm_new w1 ⟨1,(tk ys len i).v,[]⟩ 140) (tm_one _) (by unfold maxLen;omega) (by omega) (Nat.zero_le _) ?_)
 intro v' w9 hown9 hgrow9 _ hat9
 obtain ⟨a1,a2,a3,a4⟩:=tr_app hp1 hr1 140 hown9 hgrow9 hat9
 have hsz:=hc1.size
 clear hown9 hgrow9 hat9
 go_wp2
 go_ret
 exact ⟨(ts_le hc1).then a3,v',rfl,a1,a2,fun k hk=>by rcases a4 k hk with q|q <;> first|exact .inl q|exact .inr (by omega)⟩
theorem mk_40:Mk (bl ⟨#[40]⟩)=true:=by decide
theorem mk_41:Mk (bl ⟨#[41]⟩)=true:=by decide
theorem mk_91:Mk (bl ⟨#[91]⟩)=true:=by decide
theorem mk_93:Mk (bl ⟨#[93]⟩)=true:=by decide
set_option maxRecDepth 100000 in
theorem plain_par (hw:Ws ys) (h:PS ys len bp bw vp w i) (hn:isNum (Tk ys) i=false) (hp:Syn.is (Tk ys) i [40]=true) {d:Nat} {e:Option (Nat→Syn.R (List Syn.Tm))} (he:EOk ys len bp bw vp d e) {v:Value} {l0:List Syn.Tm} (hr:TR w v l0) (hb:l0.length+(ys.length - i)≤131072) :
 Calls Tryz.prog 203 #[.pointer (some ⟨bp,0,none⟩),v,.int .i64 (d:Int)] w (Ret ys len (TS bp v) w (Syn.brack (Tk ys) e (fun l=>l) [41] i) (TOk ys len bp bw vp l0 v w)):=by
 have hi:=lt_of_is hp
 have h1:=isKind_ps h 3
 rw [num_kind,hn] at h1
 have h2:=is_ps h ⟨#[40]⟩
 rw [eq_text,is_text hw len i mk_40,show bl ⟨#[40]⟩=[40] from rfl,hp] at h2
 have h3:=bracketed_any hw h hi he ⟨#[41]⟩ mk_41 hr hb
 rw [show bl ⟨#[41]⟩=[41] from rfl] at h3
 clear hn hp
 cases hB:Syn.brack (Tk ys) e (fun l=>l) [41] i with
 | error q =>
  obtain ⟨er,k⟩:=q
  rw [hB] at h3
  have HB:=hid hB
  clear hB
  go_enter Tryz.func203,Tryz.ntmps203
  go_wp2_with (first|(go_at_call 167;refine h1.mono ?_;rintro e w' ⟨rfl,rfl⟩)|(go_at_call 139;refine h2.mono ?_;rintro e w' ⟨rfl,rfl⟩))
  go_at_call 209
  refine h3.mono ?_
  rintro e w1 ⟨hc1,rfl⟩
  exact ⟨rfl,hc1,rfl⟩
 | ok q =>
  obtain ⟨l,j⟩:=q
  rw [hB] at h3
  have HB:=hid hB
  clear hB
  go_enter Tryz.func203,Tryz.ntmps203
  go_wp2_with (first|(go_at_call 167;refine h1.mono ?_;rintro e w' ⟨rfl,rfl⟩)|(go_at_call 139;refine h2.mono ?_;rintro e w' ⟨rfl,rfl⟩))
  go_at_call 209
  refine h3.mono ?_
  rintro e w1 ⟨hc1,v',rfl,a1,a2,a3⟩
  go_wp2
  go_ret
  exact ⟨hc1,v',rfl,a1,a2,a3⟩
set_option maxRecDepth 100000 in
theorem plain_none (hw:Ws ys) (h:PS ys len bp bw vp w i) (hn:isNum (Tk ys) i=false) (hp:Syn.is (Tk ys) i [40]=false) (hm:Syn.named (Tk ys) i=false) (d:Int) (v:Value) :
 Calls Tryz.prog 203 #[.pointer (some ⟨bp,0,none⟩),v,.int .i64 d] w fun e w'=>Chg (TS bp v) w w'∧e=.panicked (gv 50 ((tk ys len i).a:Nat)):=by
 have h1:=isKind_ps h 3
 rw [num_kind,hn] at h1
 have h2:=is_ps h ⟨#[40]⟩
 rw [eq_text,is_text hw len i mk_40,show bl ⟨#[40]⟩=[40] from rfl,hp] at h2
 have h3:=name_none h hm (TS bp v) (.inl rfl)
 clear hn hp hm
 go_enter Tryz.func203,Tryz.ntmps203
 go_wp2_with (first|(go_at_call 167;refine h1.mono ?_;rintro e w' ⟨rfl,rfl⟩)|(go_at_call 139;refine h2.mono ?_;rintro e w' ⟨rfl,rfl⟩))
 go_at_call 144
 refine h3.mono ?_
 rintro e w1 ⟨rfl,hc1⟩
 exact ⟨rfl,hc1,rfl⟩
set_option maxRecDepth 100000 in
theorem plain_name (hw:Ws ys) (h:PS ys len bp bw vp w i) (hn:isNum (Tk ys) i=false) (hp:Syn.is (Tk ys) i [40]=false) (hm:Syn.named (Tk ys) i=true) (hq:Syn.is (Tk ys) (i+1) [91]=false) (d:Int) {v:Value} {l0:List Syn.Tm} (hr:TR w v l0) (hb:l0.length+(ys.length - i)≤131072) :
 Calls Tryz.prog 203 #[.pointer (some ⟨bp,0,none⟩),v,.int .i64 d] w fun e w'=>Chg (TS bp v) w w'∧TOk ys len bp bw vp l0 v w [⟨2,0,bl (tk ys len i).t⟩] (i+1) e w':=by
 have hi:=lt_of_named hm
 obtain ⟨i0,hi0,hz0,hz1,hz2⟩:=infoTm
 have h1:=isKind_ps h 3
 rw [num_kind,hn] at h1
 have h2:=is_ps h ⟨#[40]⟩
 rw [eq_text,is_text hw len i mk_40,show bl ⟨#[40]⟩=[40] from rfl,hp] at h2
 have h3:=name_one h hm
 have h4:=hid (fun w1 (hp1:PS ys len bp bw vp w1 (i+1))=>by
  have:=is_ps hp1 ⟨#[91]⟩
  rw [eq_text,is_text hw len (i+1) mk_91,show bl ⟨#[91]⟩=[91] from rfl,hq] at this
  exact this)
 have HC:=hid (show tmC ⟨2,0,bl (tk ys len i).t⟩=[.int .i64 2,.int .i64 0,.string (tk ys len i).t] from by unfold tmC;rw [sb_bl];rfl)
 clear hn hp hm hq
 go_enter Tryz.func203,Tryz.ntmps203
 go_wp2_with (first|(go_at_call 167;refine h1.mono ?_;rintro e w' ⟨rfl,rfl⟩)|(go_at_call 139;refine h2.mono ?_;rintro e w' ⟨rfl,rfl⟩))
 go_at_call 144
 refine h3.mono ?_
 rintro e w1 ⟨rfl,hc1,hp1⟩
 have hr1:=tr_next h hr hc1
 have h5:=h4.out w1 hp1
 have hnew:=tm_new w1 ⟨2,0,bl (tk ys len i).t⟩ 140
 have hone:=tm_one ⟨2,0,bl (tk ys len i).t⟩
 have happ:=hid (fun v' w9=>tr_app (t:=⟨2,0,bl (tk ys len i).t⟩) (v':=v') (w9:=w9) hp1 hr1 140)
 rw [HC.out] at hnew hone happ
 go_wp2_with (first|(go_at_call 139;refine h5.mono ?_;rintro e w' ⟨rfl,rfl⟩)|(at_builtin;refine wpList_append_own_at _ rfl _ _ 97 rfl 0 140 i0 _ 3 32 Tryz.underlying97 hi0 hz0 hz1 hz2 rfl (by decide) _ _ _ rfl (hr1.alloc _) ⟨w1.heap.size,0,none⟩ 1 1 [.int .i64 2,.int .i64 0,.string (tk ys len i).t] rfl rfl hnew hone (by unfold maxLen;omega) (by omega) (Nat.zero_le _) ?_))
 intro v' w9 hown9 hgrow9 _ hat9
 obtain ⟨a1,a2,a3,a4⟩:=happ.out v' w9 hown9 hgrow9 hat9
 have hsz:=hc1.size
 clear hown9 hgrow9 hat9
 go_wp2
 go_ret
 exact ⟨(ts_le hc1).then a3,v',rfl,a1,a2,fun k hk=>by rcases a4 k hk with q|q <;> first|exact .inl q|exact .inr (by omega)⟩
set_option maxRecDepth 100000 in
theorem plain_index_bad (hw:Ws ys) (h:PS ys len bp bw vp w i) (hn:isNum (Tk ys) i=false) (hp:Syn.is (Tk ys) i [40]=false) (hm:Syn.named (Tk ys) i=true) (hq:Syn.is (Tk ys) (i+1) [91]=true) {d:Nat} {e:Option (Nat→Syn.R (List Syn.Tm))} (he:EOk ys len bp bw vp d e) {v:Value} {l0:List Syn.Tm} (hr:TR w v l0) (hb:l0.length+(ys.length - i)≤131072)
 {er k:Nat} (hB:Syn.brack (Tk ys) e (fun l=>l) [93] (i+1)=.error (er,k)) :
 Calls Tryz.prog 203 #[.pointer (some ⟨bp,0,none⟩),v,.int .i64 (d:Int)] w fun e w'=>Chg (TS bp v) w w'∧e=.panicked (gv er ((tk ys len k).a:Nat)):=by
 have hi:=lt_of_is hq
 have h1:=isKind_ps h 3
 rw [num_kind,hn] at h1
 have h2:=is_ps h ⟨#[40]⟩
 rw [eq_text,is_text hw len i mk_40,show bl ⟨#[40]⟩=[40] from rfl,hp] at h2
 have h3:=name_one h hm
 have h4:=hid (fun w1 (hp1:PS ys len bp bw vp w1 (i+1))=>by
  have:=is_ps hp1 ⟨#[91]⟩
  rw [eq_text,is_text hw len (i+1) mk_91,show bl ⟨#[91]⟩=[91] from rfl,hq] at this
  exact this)
 have h6:=hid (fun w1 (hp1:PS ys len bp bw vp w1 (i+1)) (hr1:TR w1 v l0)=>by
  have:=bracketed_any hw hp1 hi he ⟨#[93]⟩ mk_93 hr1 (by omega)
  rw [show bl ⟨#[93]⟩=[93] from rfl,hB] at this
  exact this)
 clear hn hp hm hq hB
 go_enter Tryz.func203,Tryz.ntmps203
 go_wp2_with (first|(go_at_call 167;refine h1.mono ?_;rintro e w' ⟨rfl,rfl⟩)|(go_at_call 139;refine h2.mono ?_;rintro e w' ⟨rfl,rfl⟩))
 go_at_call 144
 refine h3.mono ?_
 rintro e w1 ⟨rfl,hc1,hp1⟩
 have hr1:=tr_next h hr hc1
 have h5:=h4.out w1 hp1
 go_wp2_with (go_at_call 139;refine h5.mono ?_;rintro e w' ⟨rfl,rfl⟩)
 go_at_call 209
 refine (h6.out w1 hp1 hr1).mono ?_
 rintro e w2 ⟨hc2,rfl⟩
 exact ⟨rfl,(ts_le hc1).then hc2,rfl⟩
set_option maxRecDepth 100000 in
theorem plain_index (hw:Ws ys) (h:PS ys len bp bw vp w i) (hn:isNum (Tk ys) i=false) (hp:Syn.is (Tk ys) i [40]=false) (hm:Syn.named (Tk ys) i=true) (hq:Syn.is (Tk ys) (i+1) [91]=true) {d:Nat} {e:Option (Nat→Syn.R (List Syn.Tm))} (he:EOk ys len bp bw vp d e) {v:Value} {l0:List Syn.Tm} (hr:TR w v l0) (hb:l0.length+(ys.length - i)≤131072)
 {l:List Syn.Tm} {j:Nat} (hB:Syn.brack (Tk ys) e (fun l=>l) [93] (i+1)=.ok (l,j)) (hlj:l.length+(i+1)≤j) (hj:j≤ys.length) :
 Calls Tryz.prog 203 #[.pointer (some ⟨bp,0,none⟩),v,.int .i64 (d:Int)] w fun e w'=>Chg (TS bp v) w w'∧TOk ys len bp bw vp l0 v w (l++[⟨3,0,bl (tk ys len i).t⟩]) j e w':=by
 have hi:=lt_of_is hq
 obtain ⟨i0,hi0,hz0,hz1,hz2⟩:=infoTm
 have h1:=isKind_ps h 3
 rw [num_kind,hn] at h1
 have h2:=is_ps h ⟨#[40]⟩
 rw [eq_text,is_text hw len i mk_40,show bl ⟨#[40]⟩=[40] from rfl,hp] at h2
 have h3:=name_one h hm
 have h4:=hid (fun w1 (hp1:PS ys len bp bw vp w1 (i+1))=>by
  have:=is_ps hp1 ⟨#[91]⟩
  rw [eq_text,is_text hw len (i+1) mk_91,show bl ⟨#[91]⟩=[91] from rfl,hq] at this
  exact this)
 have h6:=hid (fun w1 (hp1:PS ys len bp bw vp w1 (i+1)) (hr1:TR w1 v l0)=>by
  have:=bracketed_any hw hp1 hi he ⟨#[93]⟩ mk_93 hr1 (by omega)
  rw [show bl ⟨#[93]⟩=[93] from rfl,hB] at this
  exact this)
 have HC:=hid (show tmC ⟨3,0,bl (tk ys len i).t⟩=[.int .i64 3,.int .i64 0,.string (tk ys len i).t] from by unfold tmC;rw [sb_bl];rfl)
 clear hn hp hm hq hB
 go_enter Tryz.func203,Tryz.ntmps203
 go_wp2_with (first|(go_at_call 167;refine h1.mono ?_;rintro e w' ⟨rfl,rfl⟩)|(go_at_call 139;refine h2.mono ?_;rintro e w' ⟨rfl,rfl⟩))
 go_at_call 144
 refine h3.mono ?_
 rintro e w1 ⟨rfl,hc1,hp1⟩
 have hr1:=tr_next h hr hc1
 have h5:=h4.out w1 hp1
 have hsz1:=hc1.size
 go_wp2_with (go_at_call 139;refine h5.mono ?_;rintro e w' ⟨rfl,rfl⟩)
 go_at_call 209
 refine (h6.out w1 hp1 hr1).mono ?_
 rintro e w2 ⟨hc2,v2,rfl,hr2,hp2,hob2⟩
 have hsz2:=hc2.size
 have hnew:=tm_new w2 ⟨3,0,bl (tk ys len i).t⟩ 140
 have hone:=tm_one ⟨3,0,bl (tk ys len i).t⟩
 have happ:=hid (fun v' w9=>tr_app (t:=⟨3,0,bl (tk ys len i).t⟩) (v':=v') (w9:=w9) hp2 hr2 140)
 have hlen:(l0++l).length≤131072:=by rw [List.length_append];omega
 rw [HC.out] at hnew hone happ
 go_wp2_with (at_builtin;refine wpList_append_own_at _ rfl _ _ 97 rfl 0 140 i0 _ 3 32 Tryz.underlying97 hi0 hz0 hz1 hz2 rfl (by decide) _ _ _ rfl (hr2.alloc _) ⟨w2.heap.size,0,none⟩ 1 1 [.int .i64 3,.int .i64 0,.string (tk ys len i).t] rfl rfl hnew hone (by unfold maxLen;omega) (by omega) (Nat.zero_le _) ?_)
 intro v' w9 hown9 hgrow9 _ hat9
 obtain ⟨a1,a2,a3,a4⟩:=happ.out v' w9 (by rw [List.length_append];exact hown9) hgrow9 hat9
 rw [List.append_assoc] at a1
 clear hown9 hgrow9 hat9
 go_wp2
 go_ret
 refine ⟨((ts_le hc1).then hc2).trans a3 (fun k hk=>?_),v',rfl,a1,a2,fun k hk=>?_⟩
 ·rcases hk with q|q
  ·exact .inl (.inl q)
  ·rcases hob2 k q with q|q
   ·exact .inl (.inr q)
   ·exact .inr (by omega)
 ·rcases a4 k hk with q|q
  ·rcases hob2 k q with q|q
   ·exact .inl q
   ·exact .inr (by omega)
  ·exact .inr (by omega)
theorem plain_any (hw:Ws ys) {d:Nat} {e:Option (Nat→Syn.R (List Syn.Tm))} (he:EOk ys len bp bw vp d e):RdT ys len bp bw vp 203 (fun v=>#[.pointer (some ⟨bp,0,none⟩),v,.int .i64 (d:Int)]) (fun _=>True) (Syn.atom (Tk ys) e):=by
 intro w i v l0 _ h hr hb
 cases hn:isNum (Tk ys) i with
 | true=>rw [atom_num len e hn];exact plain_num h hn d hr hb
 | false =>
  rw [atom_rest e hn]
  cases hp:Syn.is (Tk ys) i [40] with
  | true=>rw [if_pos rfl];exact plain_par hw h hn hp he hr hb
  | false =>
   rw [if_neg (by simp)]
   unfold Syn.atomN
   cases hm:Syn.named (Tk ys) i with
   | false=>rw [name_no hm];exact plain_none hw h hn hp hm d v
   | true =>
    rw [name_yes len hm]
    simp only [Syn.R.on]
    cases hq:Syn.is (Tk ys) (i+1) [91] with
    | false=>rw [if_neg (by simp)];exact plain_name hw h hn hp hm hq d hr hb
    | true =>
     rw [if_pos rfl,brack_g]
     cases hB:Syn.brack (Tk ys) e (fun l=>l) [93] (i+1) with
     | error q=>exact plain_index_bad hw h hn hp hm hq he hr hb hB
     | ok q =>
      obtain ⟨l,j⟩:=q
      have hc:=Syn.brack_cnt he.cnt (g:=fun l=>l) (fun l=>Nat.le_succ _) hB
      have hf:=(Syn.brack_fit (tk_nones ys) he.fit (fun l=>l) [93] (lt_of_is hq)).pos hB
      exact plain_index hw h hn hp hm hq he hr hb hB hc hf
end
def NumsAt (w:World) (q:Option Addr) (ops:List Nat):Prop :=
 ∀j (h:j<ops.length),∃g cur,q=some ⟨g,0,none⟩∧w.heap[g]?=some (.cells cur 3 (0,0))∧cur[j]?=some (.int .i64 (ops[j]:Nat))
def KpB (Bx:Nat) (q:Option Addr) (A B:World):Prop:=B.heap[Bx]?=A.heap[Bx]?∧∀a,q=some a→B.heap[a.block]?=A.heap[a.block]?
theorem NumsAt.kept {A B:World} {Bx:Nat} {q:Option Addr} {ops:List Nat} (h:NumsAt A q ops) (hk:KpB Bx q A B):NumsAt B q ops:=fun j hj=>by
 obtain ⟨g,cur,h1,h2,h3⟩:=h j hj
 exact ⟨g,cur,h1,(hk.2 _ h1).trans h2,h3⟩
theorem NumsAt.below {A B:World} {q:Option Addr} {ops:List Nat} (h:NumsAt A q ops) (hb:Below A.heap.size A B):NumsAt B q ops:=fun j hj=>by
 obtain ⟨g,cur,h1,h2,h3⟩:=h j hj
 exact ⟨g,cur,h1,(hb.block g (heap_lt h2)).trans h2,h3⟩
theorem cast_sub_one (k:Nat):(((k+1:Nat):Int) - 1)=(k:Int):=by omega
set_option maxRecDepth 100000 in
set_option maxHeartbeats 1000000 in
theorem back_stops (n Bx:Nat) (q:Option Addr) (c:Nat) (ops:List Nat) (hlen:ops.length≤131072) (w:World) (hB:w.heap[Bx]?=some (.cells #[.slice q ops.length c] 50 (0,0))) (hN:NumsAt w q ops) :
 SeqStopsK Fence.wide n Tryz.prog 210 #[.pointer (some ⟨Bx,0,none⟩)] (fun x:Nat × Nat=>#[Value.int .i64 (x.1:Int),Value.int .i64 (x.2:Int)]) (KpB Bx q) (fun xs=>xs.map Prod.snd=ops.reverse) (fun _=>True) ops.length w:=by
 intro l J Jx W hW _ _ hY h0
 have hB1:=(hW.block Bx (heap_lt hB)).trans hB
 have hN1:=hN.below hW
 clear hB hN hW
 have hc0:=cell_of (j:=0) hB1 rfl
 obtain ⟨m0,hm0⟩:∃m0,ops.length=m0:=⟨_,rfl⟩
 rw [hm0] at hc0 hlen hY
 have HM:=hid hm0
 clear hm0
 refine callsIn_of_wp Tryz.func210 rfl trivial ?_ rfl
 simp only [Tryz.ntmps210,List.size_toArray,List.length_cons,List.length_nil,Nat.reduceAdd,Nat.reduceSub,Array.replicate_succ,Array.replicate_zero,List.push_toArray,List.append_toArray,List.nil_append,List.cons_append]
 gi_wp2
 gi_loopw [3] (fun t wr=>∃(pre:List (Nat × Nat)) (m:Nat),m≤m0∧t=.int .i64 ((m:Int) - 1)∧Hid (pre.map Prod.snd=(ops.drop m).reverse)∧wr.heap[Bx]?=some (.cells #[.slice q m0 c] 50 (0,0))∧NumsAt wr q ops∧J pre wr)
  (fun t _=>(intOf t+1).toNat)
 case atStart =>
  exact ⟨[],m0,Nat.le_refl _,rfl,hid (by rw [←HM.out];simp),by rw [←HM.out];exact hB1,hN1,h0⟩
 case round =>
  obtain ⟨pre,m,hm,rfl,HP,hBr,hNr,hJr⟩:=hrel
  clear hB1 hN1 h0 hc0
  have hcr:=cell_of (j:=0) hBr rfl
  cases m with
  | zero =>
   gi_wp2
   go_end0
   exact ⟨⟨_,rfl⟩,.inl ⟨pre,by have:=HP.out;simpa using this,hJr⟩⟩
  | succ k =>
   have hk:k<ops.length:=by rw [HM.out];omega
   obtain ⟨g,cur,rfl,hg,hcur⟩:=hNr k hk
   have hck:=cell_of hg hcur
   have hpl:pre.length<m0:=by
    have h1:=congrArg List.length HP.out
    simp only [List.length_map,List.length_reverse,List.length_drop] at h1
    have:=HM.out
    omega
   obtain ⟨fn,tmps,assign,body,hy,hR⟩:=hY pre (k,ops[k]) wr hJr hpl
   have HP2:=hid (show (pre++[(k,ops[k])]).map Prod.snd=(ops.drop k).reverse from by
    rw [List.map_append,HP.out,List.drop_eq_getElem_cons hk,List.reverse_cons];rfl)
   have hNr2:=hid hNr
   have hBr2:=hid hBr
   clear HP hpl hcur hg hJr hNr hBr
   generalize ops[k]=ok at *
   rw [cast_sub_one]
   gi_wp2
   refine ⟨(fun h=>by cases h),hR.mono ?_⟩
   rintro e W3 (⟨rfl,hJ3,hk3⟩|⟨rfl,hJx3⟩)
   ·have hB3:=hid (hk3.1.trans hBr2.out)
    have hN3:=hid (hNr2.out.kept hk3)
    clear hk3
    gi_wp2
    exact ⟨⟨pre++[(k,ok)],k,by omega,rfl,HP2,hB3.out,hN3.out,hJ3⟩,by simp [intOf]⟩
   ·gi_wp2
    refine bodyPost_ret (results_none rfl _ _ _) rfl ?_
    exact ⟨⟨_,rfl⟩,.inr ⟨pre++[(k,ok)],trivial,hJx3⟩⟩
theorem unOps_spec {T:Nat→Option Syn.K}:∀(f i:Nat) (ops:List Nat) (j:Nat),Syn.unOps T f i=.ok (ops,j)→j=i+ops.length∧Syn.opOf T Syn.unL j=0∧∀n (h:n<ops.length),Syn.opOf T Syn.unL (i+n)=ops[n]∧ops[n]≠0
 | 0,_,_,_,h=>by cases h
 | f+1,i,ops,j,h=>by
  rw [Syn.unOps] at h
  split at h
  ·rename_i h0
   injection h with h;injection h with h1 h2
   subst h1;subst h2
   exact ⟨rfl,h0,fun n hn=>absurd hn (by simp)⟩
  ·rename_i h0
   obtain ⟨l1,i1,h1,h2⟩:=Syn.R.on_ok h
   injection h2 with h2;injection h2 with h3 h4
   subst h3;subst h4
   obtain ⟨a,b,c⟩:=unOps_spec f _ _ _ h1
   refine ⟨by rw [List.length_cons];omega,b,fun n hn=>?_⟩
   cases n with
   | zero=>exact ⟨rfl,h0⟩
   | succ n =>
    have:=c n (by simpa using hn)
    rw [show i+(n+1)=i+1+n by omega]
    exact this
theorem lt_of_op {ys:List It} {i:Nat} {ms:List (List Nat × Nat)} (h:Syn.opOf (Tk ys) ms i≠0):i<ys.length:=Syn.opOf_lt (tk_nones ys) h
def unT (x:Nat × Nat):Syn.Tm:=⟨4,x.2,[]⟩
def nmCells (l:List Nat):List Value:=l.map fun (k:Nat)=>Value.int .i64 (k:Int)
def sLen:Value→Nat | .slice _ n _=>n | _=>0
theorem infoI:∃i,Tryz.prog.info? 3=some i∧i.zero=some (.int .i64 0)∧i.size=1∧i.bytes=8:=by
 have h:(Tryz.prog.info? 3).map (fun i=>(i.zero,i.size,i.bytes))=some (some (.int .i64 0),1,8):=by kernel_rfl
 cases hi:Tryz.prog.info? 3 with
 | none=>rw [hi] at h;cases h
 | some i =>
  rw [hi] at h
  simp only [Option.map_some,Option.some.injEq,Prod.mk.injEq] at h
  obtain ⟨e1,e2,e3⟩:=h
  exact ⟨i,rfl,e1,e2,e3⟩
theorem nm_one (k:Nat):∀u∈[Value.int .i64 (k:Int)],u.oneCell'=true:=by
 intro u h
 obtain rfl:u=Value.int .i64 (k:Int):=by simpa using h
 rfl
theorem nums_of_row {w:World} {B n c:Nat} {q:Option Addr} {ops:List Nat} (h:w.ownsRow B 3 1 (.slice q n c) n (nmCells ops)):NumsAt w q ops:=by
 intro j hj
 have hl:=h.1
 rw [nmCells,List.length_map,Nat.mul_one] at hl
 rcases h.2 with ⟨_,h0⟩|⟨g,cap,cur,h0,_,hg,_,_,_,ht⟩
 ·omega
 ·simp only [Value.slice.injEq,true_and] at h0
  obtain ⟨rfl,rfl⟩:=h0
  refine ⟨g,cur,rfl,hg,?_⟩
  have:=congrArg (fun l=>l[j]?) ht
  simp only [List.getElem?_take,nmCells,List.getElem?_map,List.getElem?_eq_getElem hj,Option.map_some] at this
  rw [if_pos (by omega)] at this
  simpa using this
theorem cells_grown {X Y:World} {row:Option Nat} (hg:X.grownBy Y row) (hr:∀r,row=some r→∃o:Obj,X.heap[r]?=some o∧o.isCells=false) {k:Nat} {arr:Array Value} {T:TypeId} {fr:Nat × Nat} (h:X.heap[k]?=some (.cells arr T fr)):Y.heap[k]?=some (.cells arr T fr):=by
 refine (hg.block k (heap_lt h) (fun e=>?_)).trans h
 obtain ⟨o,ho,hc⟩:=hr k e.symm
 rw [h] at ho;cases ho;cases hc
theorem row_grown {X Y:World} {row:Option Nat} (hg:X.grownBy Y row) (hr:∀r,row=some r→∃o:Obj,X.heap[r]?=some o∧o.isCells=false) {B n size:Nat} {E:TypeId} {v:Value} {xs:List Value} (h:X.ownsRow B E size v n xs):Y.ownsRow B E size v n xs:=by
 refine ⟨h.1,?_⟩
 rcases h.2 with h0|⟨g,cap,cur,rfl,hb,hgg,rest⟩
 ·exact .inl h0
 ·exact .inr ⟨g,cap,cur,rfl,hb,cells_grown hg hr hgg,rest⟩
theorem PS.grown {ys:List It} {len bp bw i:Nat} {vp:Value} {X Y:World} {row:Option Nat} (h:PS ys len bp bw vp X i) (hg:X.grownBy Y row) (hr:∀r,row=some r→∃o:Obj,X.heap[r]?=some o∧o.isCells=false):PS ys len bp bw vp Y i:=by
 obtain ⟨⟨c,a1,a2⟩,⟨arr,b1,b2⟩,h3,h4⟩:=h
 exact ⟨⟨c,cells_grown hg hr a1,a2⟩,⟨arr,cells_grown hg hr b1,b2⟩,h3,h4⟩
structure UI (ys:List It) (len bp bw:Nat) (vp:Value) (l0:List Syn.Tm) (v:Value) (w w7:World) (b0 Bx j:Nat) (q:Option Addr) (pre:List (Nat × Nat)) (W:World):Prop where
 box:∃q' c',W.heap[b0]?=some (.cells #[.slice q' (l0.length+pre.length) c'] 97 (0,0))∧TR W (.slice q' (l0.length+pre.length) c') (l0++pre.map unT)∧∀k,Value.ownBlock (.slice q' (l0.length+pre.length) c')=some k→v.ownBlock=some k∨w.heap.size≤k
 ps:PS ys len bp bw vp W j
 chg:Chg (TS bp v) w W
 kp:KpB Bx q w7 W
theorem UI.own {ys:List It} {len bp bw:Nat} {vp:Value} {l0:List Syn.Tm} {v:Value} {w w7:World} {b0 Bx j:Nat} {q:Option Addr} {B:Nat} (hB:w.heap.size≤B) {f0:Value} (h7:w7.heap[Bx]?=some (.cells #[f0] 50 (0,0))) (hq:∀a,q=some a→∃cur,w7.heap[a.block]?=some (.cells cur 3 (0,0))) :
 OwnFrom B (UI ys len bp bw vp l0 v w w7 b0 Bx j q):=by
 intro pre X Y row h hg hr
 have hr2:=fun r e=>(hr r e).2
 obtain ⟨q',c',a1,a2,a3⟩:=h.box
 refine ⟨⟨q',c',cells_grown hg hr2 a1,row_grown hg hr2 a2,a3⟩,h.ps.grown hg hr2,h.chg.trans (grown_chg (S:=fun k=>row=some k) hg (fun k e=>.inl e)) (fun k e=>.inr (by have:=(hr k e).1;omega)),?_⟩
 refine ⟨?_,fun a ha=>?_⟩
 ·rw [h7];exact cells_grown hg hr2 (h.kp.1.trans h7)
 ·obtain ⟨cur,hc⟩:=hq a ha
  rw [hc];exact cells_grown hg hr2 ((h.kp.2 a ha).trans hc)
theorem kp_b {Bx:Nat} {q:Option Addr} {w:World} (h1:Bx<w.heap.size) (h2:∀a,q=some a→a.block<w.heap.size) (W:World) (l:Nat) (o o':Obj) (hl:w.heap.size≤l) (_:W.heap[l]?=some o) (_:o.isCells=false) (_:o.isWalk=false):KpB Bx q W (W.putObj l o') :=
 ⟨World.putObj_heap_other (by omega),fun a ha=>World.putObj_heap_other (by have:=h2 a ha;omega)⟩
theorem kp_t {Bx:Nat} {q:Option Addr} {A B C:World} (h:KpB Bx q A B) (k:KpB Bx q B C):KpB Bx q A C:=⟨k.1.trans h.1,fun a ha=>(k.2 a ha).trans (h.2 a ha)⟩
theorem kp_back {Bx:Nat} {q:Option Addr} {A B C:World} (h:KpB Bx q A B) (k:KpB Bx q A C):KpB Bx q B C:=⟨k.1.trans h.1.symm,fun a ha=>(k.2 a ha).trans (h.2 a ha).symm⟩
theorem UI.round {ys:List It} {len bp bw:Nat} {vp:Value} {l0:List Syn.Tm} {v:Value} {w w7:World} {b0 Bx j:Nat} {q:Option Addr} {pre:List (Nat × Nat)} {W:World} (h:UI ys len bp bw vp l0 v w w7 b0 Bx j q pre W) (x:Nat × Nat) (hb0:w.heap.size≤b0)
 {f0:Value} (h7:w7.heap[Bx]?=some (.cells #[f0] 50 (0,0))) (hq:∀a,q=some a→∃cur,w7.heap[a.block]?=some (.cells cur 3 (0,0)))
 {q1:Option Addr} {c1:Nat} (hv1:W.heap[b0]?=some (.cells #[.slice q1 (l0.length+pre.length) c1] 97 (0,0))) (T:TypeId) {v':Value} {w9:World}
 (hown:w9.ownsRow 0 140 3 v' (l0.length+pre.length+1) (tmCells (l0++pre.map unT)++tmC (unT x))) (hg:(W.alloc (.cells (tmC (unT x)).toArray T)).grownBy w9 (Value.ownBlock (.slice q1 (l0.length+pre.length) c1))) (hat:v'.ownBlock=Value.ownBlock (.slice q1 (l0.length+pre.length) c1)∨v'.ownBlock=some (W.heap.size+1)) :
 w9.heap[b0]?=some (.cells #[.slice q1 (l0.length+pre.length) c1] 97 (0,0))∧UI ys len bp bw vp l0 v w w7 b0 Bx j q (pre++[x]) (w9.setCell ⟨b0,0,none⟩ v')∧KeepsOthers W (w9.setCell ⟨b0,0,none⟩ v')∧KpB Bx q W (w9.setCell ⟨b0,0,none⟩ v'):=by
 obtain ⟨q',c',a1,a2,a3⟩:=h.box
 have e1:=a1.symm.trans hv1
 simp only [Option.some.injEq,Obj.cells.injEq,Array.mk.injEq,List.cons.injEq,Value.slice.injEq,and_true,true_and] at e1
 obtain ⟨rfl,rfl⟩:=e1
 clear a1
 have hl:(l0++pre.map unT).length=l0.length+pre.length:=by rw [List.length_append,List.length_map]
 obtain ⟨t1,t2,t3,t4⟩:=tr_app (t:=unT x) h.ps a2 T (by rw [hl];exact hown) hg hat
 have hnb:∀(k:Nat) (arr:Array Value) (E:TypeId),W.heap[k]?=some (.cells arr E (0,0))→E≠140→Value.ownBlock (.slice q' (l0.length+pre.length) c')≠some k:=by
  intro k arr E hk hE e
  obtain ⟨cur,hc⟩:=own_type a2 e
  rw [hk] at hc
  simp only [Option.some.injEq,Obj.cells.injEq] at hc
  exact hE hc.2.1
 have hC:Chg (fun k=>Value.ownBlock (.slice q' (l0.length+pre.length) c')=some k) W w9:=((Chg.refl _ W).alloc _).then (grown_chg hg (fun k hk=>.inl hk))
 have hb9:=hC.heap hv1 (hnb _ _ _ hv1 (by decide))
 have hset:=heap_set hb9 0 v'
 have hx:=own_chg (w:=w9) (w':=w9.setCell ⟨b0,0,none⟩ v') t1 (S:=fun k=>k=b0) ((Chg.refl (fun k=>k=b0) w9).setCell (p:=⟨b0,0,none⟩) (.inl rfl) v') (fun k hk e=>by
  subst e
  obtain ⟨cur,hc⟩:=own_type t1 hk
  rw [hb9] at hc
  simp at hc)
 obtain ⟨qq,cc,hvv⟩:=own_shape hown
 have hK:∀(k:Nat) (arr:Array Value) (E:TypeId),W.heap[k]?=some (.cells arr E (0,0))→E≠140→E≠97→(w9.setCell ⟨b0,0,none⟩ v').heap[k]?=W.heap[k]?:=by
  intro k arr E hk hE hE2
  have h9:=hC.heap hk (hnb k arr E hk hE)
  rw [heap_other h9 (fun e=>by subst e;rw [hb9] at h9;simp only [Option.some.injEq,Obj.cells.injEq] at h9;exact hE2 h9.2.1.symm),hk]
 have hkp:KpB Bx q w7 (w9.setCell ⟨b0,0,none⟩ v'):=by
  refine ⟨?_,fun a ha=>?_⟩
  ·rw [hK Bx _ _ (h.kp.1.trans h7) (by decide) (by decide)];exact h.kp.1
  ·obtain ⟨cur,hc⟩:=hq a ha
   rw [hK a.block _ _ ((h.kp.2 a ha).trans hc) (by decide) (by decide)];exact h.kp.2 a ha
 refine ⟨hb9,⟨⟨qq,cc,?_,?_,?_⟩,?_,?_,hkp⟩,?_,kp_back h.kp hkp⟩
 ·rw [List.length_append,List.length_singleton,←Nat.add_assoc,←hvv];exact hset
 ·rw [List.map_append,List.map_singleton,←List.append_assoc,List.length_append,List.length_singleton,←Nat.add_assoc,←hvv];exact hx
 ·rw [List.length_append,List.length_singleton,←Nat.add_assoc,←hvv]
  intro k hk
  have hsz:=h.chg.size
  rcases t4 k hk with e|e
  ·exact a3 k e
  ·exact .inr (by omega)
 ·exact t2.chg (S:=fun k=>k=b0) ((Chg.refl (fun k=>k=b0) w9).setCell (p:=⟨b0,0,none⟩) (.inl rfl) v') (fun e=>by
   obtain ⟨⟨c,p1,_⟩,_⟩:=t2
   rw [e,hb9] at p1;simp at p1) (fun e=>by
   obtain ⟨_,⟨arr,p1,_⟩,_⟩:=t2
   rw [e,hb9] at p1;simp at p1)
 ·refine (h.chg.trans hC (fun k hk=>?_)).setCell (p:=⟨b0,0,none⟩) (.inr hb0) _
  rcases a3 k hk with e|e
  ·exact .inl (.inr e)
  ·exact .inr e
 ·refine ((KeepsOthers.alloc W _).trans (KeepsOthers.of_grownBy hg fun j o e ho=>?_)).trans (KeepsOthers.setCell _ _ _)
  obtain ⟨cur,hc⟩:=own_type (a2.alloc (.cells (tmC (unT x)).toArray T)) e
  rw [hc] at ho;cases ho;rfl
attribute [local go_sem] Oper.semAt_some
theorem unOps_err {T:Nat→Option Syn.K}:∀(f i:Nat) (c k:Nat),Syn.unOps T f i=.error (c,k)→c=99
 | 0,_,_,_,h=>by injection h with h;injection h with h _;exact h.symm
 | f+1,i,c,k,h=>by
  rw [Syn.unOps] at h
  split at h
  ·cases h
  ·cases hu:Syn.unOps T f (i+1) with
   | error q =>
    rw [hu] at h
    obtain ⟨c',k'⟩:=q
    injection h with h;injection h with h1 h2
    subst h1
    exact unOps_err f _ _ _ hu
   | ok q=>rw [hu] at h;cases h
theorem on_ok' {α β:Type} (x:α) (i:Nat) (f:α→Nat→Syn.R β):Syn.R.on (.ok (x,i)) f=f x i:=rfl
theorem backward_any (q:Option Addr) (n c:Nat) (w:World):Calls Tryz.prog 204 #[.slice q n c] w fun e w'=>e=.returned (.func (.func 210) #[] #[.pointer (some ⟨w.heap.size,0,none⟩)])∧w'=w.alloc (.cells #[.slice q n c] 50):=by
 go_enter Tryz.func204,Tryz.ntmps204
 go_wp2
 go_ret
 exact ⟨rfl,rfl⟩
section
variable {ys:List It} {len bp bw i:Nat} {vp:Value} {w:World}
def US (ys:List It) (len bp bw:Nat) (vp:Value) (i:Nat) (ops:List Nat) (m:Nat) (o:Int) (t:Bool) (W:World):Prop :=
 (t=true∧(∃h:m<ops.length,o=(ops[m]:Nat))∧PS ys len bp bw vp W (i+(m+1)))∨(t=false∧m=ops.length∧o=0∧PS ys len bp bw vp W (i+m))
theorem us_any (hw:Ws ys) {ops:List Nat} (h0:Syn.opOf (Tk ys) Syn.unL (i+ops.length)=0) (hop:∀n (h:n<ops.length),Syn.opOf (Tk ys) Syn.unL (i+n)=ops[n]∧ops[n]≠0) {m:Nat} (hm:m≤ops.length) {W:World} (hp:PS ys len bp bw vp W (i+m)) :
 Calls Tryz.prog 202 #[.pointer (some ⟨bp,0,none⟩)] W fun e W'=>∃o t,e=.returned (.tuple #[.int .i64 o,.bool t])∧Chg (fun k=>k=bp) W W'∧US ys len bp bw vp i ops m o t W':=by
 by_cases hlt:m<ops.length
 ·obtain ⟨h1,h2⟩:=hop m hlt
  have hi:=lt_of_op (by rw [h1];exact h2)
  refine (unarySign_yes hw hp ops[m] h2 h1 hi).mono ?_
  rintro e W' ⟨rfl,hc,hp'⟩
  exact ⟨_,_,rfl,hc,.inl ⟨rfl,⟨hlt,rfl⟩,by rw [←Nat.add_assoc];exact hp'⟩⟩
 ·obtain rfl:m=ops.length:=by omega
  refine (unarySign_no hw hp h0).mono ?_
  rintro e W' ⟨rfl,rfl⟩
  exact ⟨_,_,rfl,Chg.refl _ _,.inr ⟨rfl,rfl,rfl,hp⟩⟩
set_option maxRecDepth 100000 in
set_option maxHeartbeats 2000000 in
theorem unary_any (hw:Ws ys) {d:Nat} {e:Option (Nat→Syn.R (List Syn.Tm))} (he:EOk ys len bp bw vp d e):RdT ys len bp bw vp 196 (fun v=>#[.pointer (some ⟨bp,0,none⟩),v,.int .i64 (d:Int)]) (fun _=>True) (Syn.unary (Tk ys) (ys.length+1) e):=by
 intro w i v l0 _ h hr hb
 obtain ⟨qv,cv,rfl⟩:=own_shape hr
 have hle:=h.le
 have hfit:=Syn.unOps_fit (tk_nones ys) (ys.length+1) i h.le (by omega)
 rw [Syn.unary_atom]
 cases hu:Syn.unOps (Tk ys) (ys.length+1) i with
 | error q =>
  obtain ⟨c,k⟩:=q
  obtain rfl:=unOps_err _ _ _ _ hu
  exact (hfit.no99 hu).elim
 | ok q =>
  obtain ⟨ops,i1⟩:=q
  obtain ⟨rfl,h0,hop⟩:=unOps_spec _ _ _ _ hu
  have hi1:i+ops.length≤ys.length:=hfit.pos hu
  have hlen:ops.length≤65536:=by have:=h.few;omega
  rw [on_ok']
  have hpl:=plain_any (len:=len) (bp:=bp) (bw:=bw) (vp:=vp) hw he
  have HUS:=hid (fun m hm W hp=>us_any (len:=len) (bp:=bp) (bw:=bw) (vp:=vp) (W:=W) (m:=m) hw h0 hop hm hp)
  obtain ⟨i0,hi0,hz0,hz1,hz2⟩:=infoI
  obtain ⟨j0,hj0,hy0,hy1,hy2⟩:=infoTm
  obtain ⟨hlt,hlb⟩:=h.lt
  have hne:¬w.heap.size=bp:=by omega
  clear hfit hu h0 hop
  have HPL:=hid hpl
  have HH:=hid h
  have HR:=hid hr
  clear hpl h hr
  refine (callsIn_wide (n:=3)).1 ?_
  refine callsIn_of_wp_marks Tryz.func196 rfl trivial ?_ rfl
  simp only [Tryz.ntmps196,List.size_toArray,List.length_cons,List.length_nil,Nat.reduceAdd,Nat.reduceSub,Array.replicate_succ,Array.replicate_zero,List.push_toArray,List.append_toArray,List.nil_append,List.cons_append]
  gi_wp2
  refine ⟨trivial,?_⟩
  gi_at_call 202
  refine (callsIn_wide.2 (HUS.out 0 (Nat.zero_le _) _ (HH.out.alloc _))).mono ?_
  rintro e1 w1 ⟨o1,t1,rfl,hc1,hus1⟩
  have hC1:Chg (fun k=>k=bp) w w1:=((Chg.refl _ w).alloc _).then hc1
  have hbx1:=hc1.heap (World.alloc_heap_new w (.cells #[.slice qv l0.length cv] 97)) hne
  have HUS1:=hid hus1
  clear hus1 hc1
  gi_wp2
  gi_loopw [7,8,9] (fun a b c wr=>∃m q' c' o t,m≤ops.length∧a=.slice q' m c'∧b=.int .i64 o∧c=.bool t∧Hid (wr.ownsRow (w.heap.size+1) 3 1 (.slice q' m c') m (nmCells (ops.take m)))∧Hid (US ys len bp bw vp i ops m o t wr)∧Chg (fun k=>k=bp) w wr∧wr.heap[w.heap.size]?=some (.cells #[.slice qv l0.length cv] 97 (0,0)))
   (fun a _ _ _=>ops.length+1 - sLen a)
  case atStart =>
   exact ⟨0,none,0,o1,t1,Nat.zero_le _,rfl,rfl,rfl,hid (World.ownsRow_nil _ _ _ _),HUS1,hC1,hbx1⟩
  case round =>
   obtain ⟨m,q',c',o,t,hm,rfl,rfl,rfl,hrow,hus,hC,hbx⟩:=hrel
   clear hC1 hbx1
   rcases hus.out with ⟨rfl,⟨hml,rfl⟩,hp⟩|⟨rfl,rfl,rfl,hp⟩
   ·have hrow':=hrow.out
    have hsz:=hC.size
    gi_wp2_with (gi_at_builtin;refine wpListIn_append_own_at _ rfl _ _ 50 rfl (w.heap.size+1) 3 i0 _ 1 8 Tryz.underlying50 hi0 hz0 hz1 hz2 rfl (by decide) _ _ _ rfl (hrow'.alloc _) ⟨wr.heap.size,0,none⟩ 1 1 [.int .i64 (ops[m]:Nat)] rfl rfl (row_new wr [_] 3) (nm_one _) (by unfold maxLen;omega) (by omega) (by have:=heap_lt hbx;simp;omega) ?_)
    intro v' w9 hown9 hgrow9 _ hat9
    obtain ⟨q2,c2,rfl⟩:=own_shape hown9
    have hS9:Chg (fun k=>w.heap.size+1≤k) wr w9:=((Chg.refl _ wr).alloc _).then (grown_chg hgrow9 (fun k hk=>.inl (hrow'.lt k hk).1))
    have hC9:Chg (fun k=>k=bp) w w9:=hC.trans hS9 (fun k hk=>.inr (by omega))
    have hbx9:=hS9.heap hbx (by omega)
    have hp9:=hp.chg hS9 (by omega) (by omega)
    have hrow9:w9.ownsRow (w.heap.size+1) 3 1 (.slice q2 (m+1) c2) (m+1) (nmCells (ops.take (m+1))):=by
     rw [List.take_succ_eq_append_getElem hml]
     unfold nmCells at hown9 ⊢
     rw [List.map_append]
     exact hown9
    have HROW:=hid hrow9
    clear hown9 hgrow9 hat9 hrow' hrow hS9 hbx hp hus hrow9
    gi_wp2
    refine ⟨trivial,?_⟩
    gi_at_call 202
    refine (callsIn_wide.2 (HUS.out (m+1) hml _ hp9)).mono ?_
    rintro e2 w2 ⟨o2,t2,rfl,hc2,hus2⟩
    have HROW2:=hid (own_chg HROW.out hc2 (fun k hk e=>by have:=(HROW.out.lt k hk).1;omega))
    have HUS2:=hid hus2
    have hbx2:=hc2.heap hbx9 hne
    have hC2:=hC9.then hc2
    clear hus2 hc2 hp9 hbx9 hC9 HROW
    gi_wp2
    exact ⟨⟨m+1,q2,c2,o2,t2,hml,rfl,rfl,rfl,HROW2,HUS2,hC2,hbx2⟩,by simp [sLen];omega⟩
   ·have htr:=tr_next HH.out HR.out hC
    have hcall:=HPL.out wr (i+ops.length) _ l0 trivial hp htr (by omega)
    have hszr:=hC.size
    have hcell:=cell_of (j:=0) hbx rfl
    clear hus hm
    gi_wp2
    refine ⟨trivial,?_⟩
    gi_at_call 203
    refine (callsIn_wide.2 hcall).mono ?_
    rintro e2 w2 ⟨hc2,hq⟩
    have hC2:=hid ((ts_le (v:=.slice qv l0.length cv) hC).then hc2)
    have hb0r:¬TS bp (.slice qv l0.length cv) w.heap.size:=by
     rintro (e3|e3)
     ·exact hne e3
     ·obtain ⟨cur,h3⟩:=own_type htr e3
      rw [hbx] at h3;simp at h3
    have hbx2:=hc2.heap hbx hb0r
    have hrow2:=own_chg hrow.out hc2 (fun k hk e3=>by
     obtain ⟨cur,h3⟩:=own_type hrow.out hk
     rcases e3 with rfl|e3
     ·have:=(hrow.out.lt _ hk).1;omega
     ·obtain ⟨cur',h4⟩:=own_type htr e3
      rw [h3] at h4;simp at h4)
    have HROW2:=hid hrow2
    have hsz2:=hc2.size
    cases hat:Syn.atom (Tk ys) e (i+ops.length) with
    | error q =>
     obtain ⟨er,k⟩:=q
     rw [hat] at hq
     obtain rfl:=hq
     refine ⟨hC2.out,?_⟩
     rw [hat]
     exact rfl
    | ok q =>
     obtain ⟨l,j⟩:=q
     rw [hat] at hq
     obtain ⟨v2,rfl,htr2,hp2,hob2⟩:=hq
     obtain ⟨L,hL⟩:∃L,l0++l=L:=⟨_,rfl⟩
     rw [hL] at htr2
     obtain ⟨q3,c3,rfl⟩:=own_shape htr2
     have hj:=((Syn.atom_fit (tk_nones ys) he.fit hi1).pos hat)
     have hcn:=Syn.atom_cnt he.cnt _ _ _ hat
     have hLn:L.length+ops.length≤131072:=by rw [←hL,List.length_append];omega
     have HL:=hid hL
     clear hL
     have HAT:=hid hat
     have HTR2:=hid htr2
     have hc2b:=cell_of (j:=0) hbx2 rfl
     have hf2b:=free_of (j:=0) hbx2
     have HP2:=hid hp2
     have HOB2:=hid hob2
     have HBX2:=hid hbx2
     clear hat htr2 hp2 hob2 hbx2 hc2 hrow2 hrow hbx hp htr hcell hC
     gi_wp2
     refine ⟨trivial,?_⟩
     gi_at_call 204
     refine (callsIn_wide.2 (backward_any _ _ _ _)).mono ?_
     rintro e3 w3 ⟨rfl,rfl⟩
     gi_wp2_with fail
     have hCs:Chg (fun k=>k=w.heap.size) w2 (w2.setCell ⟨w.heap.size,0,none⟩ (.slice q3 L.length c3)):=(Chg.refl (fun k=>k=w.heap.size) w2).setCell (p:=⟨w.heap.size,0,none⟩) (.inl rfl) _
     have hrow7:=(own_chg (HROW2.out) hCs (fun k hk e3=>by have:=(HROW2.out.lt k hk).1;omega)).alloc (.cells #[.slice q' ops.length c'] 50)
     have htr7:=(own_chg HTR2.out hCs (fun k hk e3=>by
      obtain ⟨cur,h3⟩:=own_type HTR2.out hk
      rw [e3,HBX2.out] at h3;simp at h3)).alloc (.cells #[.slice q' ops.length c'] 50)
     have hps7:=(HP2.out.chg hCs (fun e3=>by omega) (fun e3=>by omega)).alloc (.cells #[.slice q' ops.length c'] 50)
     have hbx7:=heap_new _ (.cells #[.slice q' ops.length c'] 50) (heap_set HBX2.out 0 (.slice q3 L.length c3))
     have hC7:=((hC2.out).trans hCs (fun k hk=>.inr (by omega))).alloc (.cells #[.slice q' ops.length c'] 50)
     have hBx7:=World.alloc_heap_new (w2.setCell ⟨w.heap.size,0,none⟩ (.slice q3 L.length c3)) (.cells #[.slice q' ops.length c'] 50)
     rw [show (w2.setCell ⟨w.heap.size,0,none⟩ (.slice q3 L.length c3)).heap.size=w2.heap.size from by simp [World.setCell]] at hBx7
     have hbl:w.heap.size<w2.heap.size:=heap_lt HBX2.out
     have hsz7:w2.heap.size<((w2.setCell ⟨w.heap.size,0,none⟩ (.slice q3 L.length c3)).alloc (.cells #[.slice q' ops.length c'] 50)).heap.size:=heap_lt hBx7
     generalize ((w2.setCell ⟨w.heap.size,0,none⟩ (.slice q3 L.length c3)).alloc (.cells #[.slice q' ops.length c'] 50))=w7 at *
     rw [List.take_length] at hrow7
     have hN7:=nums_of_row hrow7
     have hq7:∀a,q'=some a→∃cur,w7.heap[a.block]?=some (.cells cur 3 (0,0)):=fun a ha=>own_type hrow7 (by rw [ha];rfl)
     have hui:UI ys len bp bw vp L (.slice qv l0.length cv) w w7 w.heap.size w2.heap.size j q' [] w7:=by
      refine ⟨⟨q3,c3,hbx7,?_,fun k hk=>?_⟩,hps7,hC7,rfl,fun _ _=>rfl⟩
      ·rw [List.map_nil,List.append_nil];exact htr7
      ·rcases HOB2.out k hk with e3|e3
       ·exact .inl e3
       ·exact .inr (by omega)
     have hown:=UI.own (ys:=ys) (len:=len) (bp:=bp) (bw:=bw) (vp:=vp) (l0:=L) (v:=.slice qv l0.length cv) (w:=w) (w7:=w7) (b0:=w.heap.size) (Bx:=w2.heap.size) (j:=j) (q:=q') (B:=w7.heap.size) (by omega) hBx7 hq7
     have hqlt:∀a,q'=some a→a.block<w7.heap.size:=fun a ha=>by obtain ⟨cur,hc⟩:=hq7 a ha;exact heap_lt hc
     have HOWN:=hid hown
     have HQ7:=hid hq7
     have HBX7:=hid hBx7
     clear hown hCs hrow7 htr7 hps7 hbx7 hC7
     refine wpIn_rangeFunc_ownF rfl (by omega) (gf:=210) (lb:=#[.pointer (some ⟨w2.heap.size,0,none⟩)]) rfl trivial (enters_of Tryz.func210 (by kernel_rfl) rfl)
      (back_stops (3 - 1) w2.heap.size q' c' ops (by omega) w7 hBx7 hN7) (fun h k=>kp_t h k) (kp_b hsz7 hqlt) (Below.refl _ _) (fun _=>rfl)
      (UI ys len bp bw vp L (.slice qv l0.length cv) w w7 w.heap.size w2.heap.size j q') (fun _ _ _=>False) HOWN.out (fun _ _ _ _ _ hs _ _=>hs) hui
      (fun x=>{ tmps:=#[.pointer (some ⟨bp,0,none⟩),.slice qv l0.length cv,.int .i64 (d:Int),undef,.pointer (some ⟨w.heap.size,0,none⟩),undef,.slice none 0 0,.slice q' ops.length c',.int .i64 0,.bool false,undef,.int .i64 (x.2:Int),.tuple #[.int .i64 o1,.bool t1],.pointer (some ⟨bp,0,none⟩),.tuple #[.int .i64 o1,.bool t1],.int .i64 o1,.bool t1,.bool false,u18,u19,u20,u21,u22,u23,u24,u25,u26,.pointer (some ⟨bp,0,none⟩),.slice qv l0.length cv,.int .i64 (d:Int),.slice q3 L.length c3,.slice q' ops.length c',.func (.func 210) #[] #[.pointer (some ⟨w2.heap.size,0,none⟩)],.int .i64 (x.1:Int),.int .i64 (x.2:Int),undef,undef,undef,undef,undef,undef],defers:=[] }) ?assign ?body ?done ?stop
     case assign =>
      intro l x W K hK
      gi_wp2
      exact hK
     case body =>
      rintro l pre x W hI hlt2
      obtain ⟨q1,c1,a1,a2,a3⟩:=hI.box
      have hR:=hid (fun v' w9=>hI.round x (Nat.le_refl _) HBX7.out HQ7.out a1 140 (v':=v') (w9:=w9))
      have a2':W.ownsRow 0 140 3 (.slice q1 (L.length+pre.length) c1) (L.length+pre.length) (tmCells (L++pre.map unT)):=by
       unfold TR at a2
       rwa [List.length_append,List.length_map] at a2
      have hnew:=tm_new W (unT x) 140
      have hone:=tm_one (unT x)
      rw [show tmC (unT x)=[.int .i64 4,.int .i64 (x.2:Int),.string ⟨#[]⟩] from rfl] at hnew hone
      have hcell:=cell_of (j:=0) a1 rfl
      have hpre:pre.length<ops.length:=hlt2
      clear a1 a2 a3 hI hui hN7 hq7 hBx7
      gi_wp2_with (gi_at_builtin;refine wpListIn_append_own_at _ rfl _ _ 97 rfl 0 140 j0 _ 3 32 Tryz.underlying97 hj0 hy0 hy1 hy2 rfl (by decide) _ _ _ rfl (a2'.alloc _) ⟨W.heap.size,0,none⟩ 1 1 [.int .i64 4,.int .i64 (x.2:Int),.string ⟨#[]⟩] rfl rfl hnew hone (by unfold maxLen;omega) (by omega) (Nat.zero_le _) ?_)
      intro v' w9 hown9 hgrow9 _ hat9
      obtain ⟨b1,b2,b3,b4⟩:=hR.out v' w9 hown9 hgrow9 hat9
      obtain ⟨qq,cc,rfl⟩:=own_shape hown9
      have hc9:=cell_of (j:=0) b1 rfl
      have hf9:=free_of (j:=0) b1
      have B2:=hid b2
      clear hown9 hgrow9 hat9 b1 b2 hcell a2' hnew hone
      gi_wp2
      exact ⟨b3,b4,B2.out⟩
     case done =>
      rintro D xs W hD hS hI hK
      obtain ⟨q1,c1,a1,a2,a3⟩:=hI.box
      have hcell:=cell_of (j:=0) a1 rfl
      have hI2:=hid (HOWN.out.putObj (.deferred none) hI hD hK rfl)
      have HS:=hid hS
      have hb0D:=cells_grown (grownBy_putObj' W D (.deferred none)) (fun r e=>by cases e;exact ⟨_,hK,rfl⟩) a1
      have HB0D:=hid hb0D
      clear a1 a2 a3 hI hui hN7 hq7 hBx7 hS hb0D
      gi_wp2
      refine ⟨by simp,.inl ⟨_,_,rfl,run_takeDeferred hK,?_⟩⟩
      obtain ⟨q2,c2,d1,d2,d3⟩:=hI2.out.box
      have e0:=HB0D.out.symm.trans d1
      simp only [Option.some.injEq,Obj.cells.injEq,Array.mk.injEq,List.cons.injEq,Value.slice.injEq,and_true,true_and] at e0
      obtain ⟨rfl,rfl⟩:=e0
      refine ⟨_,results_tmp rfl _ _ _,?_⟩
      rw [HAT.out]
      refine ⟨hI2.out.chg,_,rfl,?_,hI2.out.ps,?_⟩
      ·have e1:(l0++(l++List.map (fun o=>(⟨4,o,[]⟩:Syn.Tm)) ops.reverse))=L++xs.map unT:=by
        rw [←HL.out,←HS.out,List.map_map,List.append_assoc];rfl
       rw [e1]
       exact d2
      ·exact d3
     case stop =>
      rintro D cc pre W _ _ h _
      exact h.elim
end
end Go.Proofs.YtlpdjfimefjmcaaGreatDoor.Q
