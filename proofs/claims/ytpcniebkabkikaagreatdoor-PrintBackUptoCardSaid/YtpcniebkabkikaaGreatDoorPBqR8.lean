/- A part of the proof of PrintBack: contracts and plain facts. -/
import Derived.Test.YtpcniebkabkikaaGreatDoorPBqR6
import Derived.Test.YtpcniebkabkikaaGreatDoorPBqR7
import Derived.Deep.QuietTactic
import Derived.BigQuiet
import Derived.Deep.RegionWith
import Derived.Deep.RegionHeldLaw
set_option maxRecDepth 100000
set_option maxHeartbeats 8000000
open Go.Lib (hid)
open Go.Proofs.Tryz
namespace Go.Proofs.YtpcniebkabkikaaGreatDoor
open Go Go.RowKit Go.Proofs.Mm
open List renaming setIfInBounds_toArray → n1,set_cons_zero → n2,set_cons_succ → n3,getElem_toArray → n4,getElem_cons_zero → n5,getElem_cons_succ → n6
def tv (t:TmZ):Value:=.agg #[.int .i64 t.kind,.int .i64 t.value,.string t.name]
def tb (t:TmZ):Obj:=.cells #[.int .i64 t.kind,.int .i64 t.value,.string t.name] 45
section
variable {W:World}
theorem b3_ (W:World) (t:TmZ):Below W.heap.size W (W.alloc (tb t)):=(Below.refl _ _).alloc (Nat.le_refl _) _
theorem q9_ (t:TmZ) (W:World):Calls prog 78 #[tv t] W fun e w'=>e=.returned (.int .i64 ((wantZ t:Nat):Int))∧W.alloc (tb t)=w':=by
 obtain ⟨k,v,s⟩:=t
 unfold tv tb wantZ
 simp only
 by_cases h5:k=5
 ·subst h5
  go_enter func78,ntmps78
  go_wp2
  go_ret
  exact ⟨rfl,rfl⟩
 by_cases h3:k=3
 ·subst h3
  go_enter func78,ntmps78
  go_wp2
  go_ret
  exact ⟨rfl,rfl⟩
 by_cases h4:k=4
 ·subst h4
  go_enter func78,ntmps78
  go_wp2
  go_ret
  exact ⟨rfl,rfl⟩
 rw [if_neg h5,if_neg (by omega)]
 have e5:(k == 5)=false:=by simpa using h5
 have e3:(k == 3)=false:=by simpa using h3
 have e4:(k == 4)=false:=by simpa using h4
 go_enter func78,ntmps78
 go_wp2
 go_ret
 exact ⟨rfl,rfl⟩
theorem arity_p (x:Int) (W:World):Calls prog 136 #[.int .i64 x] W fun e w'=>e=.returned (.int .i64 (if 1≤x∧x≤14 then 2 else if 15≤x∧x≤17 then 1 else 0))∧W=w':=by
 by_cases h1:1≤x
 ·by_cases h2:x≤14
  ·rw [if_pos ⟨h1,h2⟩]
   go_enter func136,ntmps136
   go_wp2
   go_ret
   exact ⟨rfl,rfl⟩
  ·rw [if_neg (by omega)]
   by_cases h3:15≤x
   ·by_cases h4:x≤17
    ·rw [if_pos ⟨h3,h4⟩]
     go_enter func136,ntmps136
     go_wp2
     go_ret
     exact ⟨rfl,rfl⟩
    ·rw [if_neg (by omega)]
     go_enter func136,ntmps136
     go_wp2
     go_ret
     exact ⟨rfl,rfl⟩
   ·omega
 ·rw [if_neg (by omega),if_neg (by omega)]
  have h3:¬15≤x:=by omega
  go_enter func136,ntmps136
  go_wp2
  go_ret
  exact ⟨rfl,rfl⟩
theorem h7_ (W:World) (k v:Int) (s:ByteArray):(W.alloc (.cells #[.int .i64 k,.int .i64 v,.string s] 45)).cell? ⟨W.heap.size,0,none⟩=some (.int .i64 k)∧(W.alloc (.cells #[.int .i64 k,.int .i64 v,.string s] 45)).cell? ⟨W.heap.size,1,none⟩=some (.int .i64 v)∧(W.alloc (.cells #[.int .i64 k,.int .i64 v,.string s] 45)).cell? ⟨W.heap.size,2,none⟩=some (.string s):=by
 refine ⟨?_,?_,?_⟩ <;> (rw [World.cell?_alloc_new];rfl)
theorem s_tb {W:World} {b:Nat} {x y z:Value} (h:W.cell? ⟨b,0,none⟩=some x∧W.cell? ⟨b,1,none⟩=some y∧W.cell? ⟨b,2,none⟩=some z) (o:Obj):(W.alloc o).cell? ⟨b,0,none⟩=some x∧(W.alloc o).cell? ⟨b,1,none⟩=some y∧(W.alloc o).cell? ⟨b,2,none⟩=some z:=by
 have hl:=World.block_lt_of_cell? _ _ h.1
 have hb:Below W.heap.size W (W.alloc o):=(Below.refl _ _).alloc (Nat.le_refl _) o
 exact ⟨(hb.cell hl).trans h.1,(hb.cell (p:=⟨b,1,none⟩) hl).trans h.2.1,(hb.cell (p:=⟨b,2,none⟩) hl).trans h.2.2⟩
theorem sorts (v:Int):((if 1≤v∧v≤14 then (2:Int) else if 15≤v∧v≤17 then 1 else 0)=2∧decide (1≤v∧v≤14)=true∧decide (15≤v∧v≤17)=false)∨((if 1≤v∧v≤14 then (2:Int) else if 15≤v∧v≤17 then 1 else 0)=1∧decide (1≤v∧v≤14)=false∧decide (15≤v∧v≤17)=true)∨((if 1≤v∧v≤14 then (2:Int) else if 15≤v∧v≤17 then 1 else 0)=0∧decide (1≤v∧v≤14)=false∧decide (15≤v∧v≤17)=false):=by
 by_cases h1:1≤v∧v≤14
 ·exact .inl ⟨if_pos h1,decide_eq_true h1,decide_eq_false (by omega)⟩
 ·by_cases h2:15≤v∧v≤17
  ·exact .inr (.inl ⟨by rw [if_neg h1,if_pos h2],decide_eq_false h1,decide_eq_true h2⟩)
  ·exact .inr (.inr ⟨by rw [if_neg h1,if_neg h2],decide_eq_false h1,decide_eq_false h2⟩)
theorem good_p (t:TmZ) (hs:t.name.size≤140737488355327) (W:World) (hE:EnvP W):Calls prog 79 #[tv t] W fun e w'=>e=.returned (.bool (rightZ t))∧Below W.heap.size W w':=by
 have HB:=hid (b3_ W t)
 have HE:=hid (hE.lex.below (b3_ W t) hE.lex.lt)
 have hmx:prog.follows .mixedOrders=true:=by kernel_rfl
 have HI:=hid (fun (W:World) (hE:Env W)=>is_any t.name (by omega) W hE)
 have ha:=hid (fun W=>arity_p t.value W)
 have hw:=hid (fun W=>q9_ t W)
 clear hE
 obtain ⟨k,v,s⟩:=t
 unfold tv tb at *
 unfold rightZ
 simp only at *
 by_cases h1:k=1
 ·subst h1
  by_cases hv:0≤v
  ·simp only [hv,decide_true,Bool.true_and,if_true]
   go_enter func79,ntmps79
   go_wp2
   go_ret
   exact ⟨rfl,HB.out⟩
  ·simp only [hv,decide_false,Bool.false_and,if_true]
   go_enter func79,ntmps79
   go_wp2
   go_ret
   exact ⟨rfl,HB.out⟩
 by_cases h23:k=2∨k=3
 ·rw [if_neg h1,if_pos h23]
  by_cases hv:v=0
  ·subst hv
   have hd:(decide ((0:Int)=0) && isL (bl s) == 1)=(((isL (bl s):Nat):Int) == 1):=by
    rw [Bool.eq_iff_iff];simp only [decide_true,Bool.true_and,beq_iff_eq];omega
   rw [hd]
   clear hd
   rcases h23 with rfl|rfl
   all_goals
    go_enter func79,ntmps79
    go_wp2_with (go_at_call 135;refine (HI.out _ HE.out).mono ?_)
    rintro e w1 ⟨rfl,hb1⟩
    have HB1:=hid (HB.out.trans (hb1.mono HB.out.size))
    clear hb1
    go_wp2_with fail
    go_ret
    exact ⟨rfl,HB1.out⟩
  ·have hd:(decide (v=0) && isL (bl s) == 1)=false:=by simp [hv]
   rw [hd]
   clear hd
   have hvb:(v == 0)=false:=by simpa using hv
   rcases h23 with rfl|rfl
   all_goals
    go_enter func79,ntmps79
    go_wp2
    go_ret
    exact ⟨rfl,HB.out⟩
 have h2:¬k=2:=fun e=>h23 (.inl e)
 have h3:¬k=3:=fun e=>h23 (.inr e)
 rw [if_neg h1,if_neg h23]
 clear h23
 by_cases h45:k=4∨k=5
 ·have hst:s.toList=[]∨(s.toList == ([]:List UInt8))=false:=by
   by_cases h:s.toList=[]
   ·exact .inl h
   ·exact .inr (by simpa using h)
  have hbb:=hid (HB.out.alloc HB.out.size (.cells #[.int .i64 k,.int .i64 v,.string s] 45))
  clear HI HE
  rcases h45 with rfl|rfl
  ·have hw1:((if (4:Int)=5 then 2 else if (4:Int)=3∨(4:Int)=4 then 1 else 0:Nat):Int)=1:=rfl
   unfold wantZ at hw
   simp only [hw1] at hw
   clear hw1
   obtain ⟨a,hva,ha3⟩:∃a:Int,(if 1≤v∧v≤14 then (2:Int) else if 15≤v∧v≤17 then 1 else 0)=a∧((a=2∧decide (1≤v∧v≤14)=true∧decide (15≤v∧v≤17)=false)∨(a=1∧decide (1≤v∧v≤14)=false∧decide (15≤v∧v≤17)=true)∨(a=0∧decide (1≤v∧v≤14)=false∧decide (15≤v∧v≤17)=false)):=⟨_,rfl,sorts v⟩
   rw [hva] at ha
   clear hva
   rcases ha3 with ⟨rfl,d1,d2⟩|⟨rfl,d1,d2⟩|⟨rfl,d1,d2⟩
   ·simp only [d1,d2,Bool.false_and,Bool.true_and]
    clear d1 d2
    go_enter func79,ntmps79
    go_wp2_with fail
    have hS1:=h7_ W 4 v s
    generalize hW1:W.alloc _=W1 at *
    have hS0:(fun w':World=>w'.cell? ⟨W.heap.size,0,none⟩=some (.int .i64 4)∧w'.cell? ⟨W.heap.size,1,none⟩=some (.int .i64 v)∧w'.cell? ⟨W.heap.size,2,none⟩=some (.string s)) W1.drew:=hS1
    refine wp_region_held_drew (S:=fun w':World=>w'.cell? ⟨W.heap.size,0,none⟩=some (.int .i64 4)∧w'.cell? ⟨W.heap.size,1,none⟩=some (.int .i64 v)∧w'.cell? ⟨W.heap.size,2,none⟩=some (.string s)) hmx hS0 (fun hHeld=>?_)
    refine wpAnyH_take (i:=0) (v:=.pointer (some ⟨W.heap.size,1,none⟩)) rfl (by kernel_rfl) (by kernel_rfl) (by kernel_rfl) (fun _ _ _ h=>h) (Or.inl ⟨by rfl,fun w hSw=>by obtain ⟨s0,s1,s2⟩:=hSw;go_simp⟩) (by assumption) ?_
    try simp only [Act.put,n1,n2,n3,n4,n5,n6]
    refine wpAnyH_take (i:=1) (v:=.int .i64 v) rfl (by kernel_rfl) (by kernel_rfl) (by kernel_rfl) (fun _ _ _ h=>h) (Or.inl ⟨by rfl,fun w hSw=>by obtain ⟨s0,s1,s2⟩:=hSw;go_simp⟩) (by assumption) ?_
    try simp only [Act.put,n1,n2,n3,n4,n5,n6]
    refine wpAnyH_take (i:=3) (v:=.agg #[.int .i64 4,.int .i64 v,.string s]) rfl (by kernel_rfl) (by kernel_rfl) (by kernel_rfl) (fun _ _ _ h=>h) (Or.inl ⟨by rfl,fun w hSw=>by obtain ⟨s0,s1,s2⟩:=hSw;go_simp⟩) (by assumption) ?_
    try simp only [Act.put,n1,n2,n3,n4,n5,n6]
    refine wpAnyH_ready (rs:=[2]) (by kernel_rfl) (by simp) ?_
    refine AllReadyH.cons rfl (fun K hK=>?_) AllReadyH.nil
    go_simp
    go_at_call 136
    refine (ha.out _).mono ?_
    rintro e w' ⟨rfl,rfl⟩
    refine hK.out _ _ (by first|exact hS1|exact s_tb hS1 _) (fun hHeld=>?_)
    try simp only [Act.put,n1,n2,n3,n4,n5,n6]
    refine wpAnyH_ready (rs:=[4]) (by kernel_rfl) (by simp) ?_
    refine AllReadyH.cons rfl (fun K2 hK2=>?_) AllReadyH.nil
    go_simp
    go_at_call 78
    refine (hw.out _).mono ?_
    rintro e w' ⟨rfl,rfl⟩
    refine hK2.out _ _ (by first|exact hS1|exact s_tb hS1 _) (fun hHeld=>?_)
    try simp only [Act.put,n1,n2,n3,n4,n5,n6]
    refine wpAnyH_take (i:=5) (v:=.bool false) rfl (by kernel_rfl) (by kernel_rfl) (by kernel_rfl) (fun _ _ _ h=>h) (Or.inl ⟨by rfl,fun w hSw=>by obtain ⟨s0,s1,s2⟩:=hSw;go_simp⟩) (by assumption) ?_
    try simp only [Act.put,n1,n2,n3,n4,n5,n6]
    refine wpAnyH_take (i:=6) (v:=.bool false) rfl (by kernel_rfl) (by kernel_rfl) (by kernel_rfl) (fun _ _ _ h=>h) (Or.inl ⟨by rfl,fun w hSw=>by obtain ⟨s0,s1,s2⟩:=hSw;go_simp⟩) (by assumption) ?_
    try simp only [Act.put,n1,n2,n3,n4,n5,n6]
    refine wpAnyH_take (i:=7) (v:=undef) rfl (by kernel_rfl) (by kernel_rfl) (by kernel_rfl) (fun _ _ _ h=>h) (Or.inr ⟨by rfl,rfl⟩) (by assumption) ?_
    try simp only [Act.put,n1,n2,n3,n4,n5,n6]
    refine wpAnyH_take (i:=8) (v:=undef) rfl (by kernel_rfl) (by kernel_rfl) (by kernel_rfl) (fun _ _ _ h=>h) (Or.inr ⟨by rfl,rfl⟩) (by assumption) ?_
    try simp only [Act.put,n1,n2,n3,n4,n5,n6]
    refine wpAnyH_take (i:=9) (v:=undef) rfl (by kernel_rfl) (by kernel_rfl) (by kernel_rfl) (fun _ _ _ h=>h) (Or.inr ⟨by rfl,rfl⟩) (by assumption) ?_
    try simp only [Act.put,n1,n2,n3,n4,n5,n6]
    refine wpAnyH_take (i:=10) (v:=.bool false) rfl (by kernel_rfl) (by kernel_rfl) (by kernel_rfl) (fun _ _ _ h=>h) (Or.inl ⟨by rfl,fun w hSw=>by obtain ⟨s0,s1,s2⟩:=hSw;go_simp⟩) (by assumption) ?_
    try simp only [Act.put,n1,n2,n3,n4,n5,n6]
    refine wpAnyH_take (i:=11) (v:=.bool false) rfl (by kernel_rfl) (by kernel_rfl) (by kernel_rfl) (fun _ _ _ h=>h) (Or.inl ⟨by rfl,fun w hSw=>by obtain ⟨s0,s1,s2⟩:=hSw;go_simp⟩) (by assumption) ?_
    try simp only [Act.put,n1,n2,n3,n4,n5,n6]
    refine wpAnyH_done (by kernel_rfl) ?_ _
    go_wp2
    go_ret
    subst hW1
    exact ⟨rfl,by first|exact hbb.out|exact Go.below_drewN hbb.out _⟩
   ·simp only [d1,d2,Bool.false_and,Bool.true_and]
    clear d1 d2
    go_enter func79,ntmps79
    go_wp2_with fail
    go_region_with (first|(go_at_call 136;refine (ha.out _).mono ?_;rintro e w' ⟨rfl,rfl⟩)|(go_at_call 78;refine (hw.out _).mono ?_;rintro e w' ⟨rfl,rfl⟩))
    all_goals
     go_wp2
     go_ret
     exact ⟨rfl,by first|exact hbb.out|exact Go.below_drewN hbb.out _⟩
   ·simp only [d1,d2,Bool.false_and,Bool.true_and]
    clear d1 d2
    go_enter func79,ntmps79
    go_wp2_with fail
    have hS1:=h7_ W 4 v s
    generalize hW1:W.alloc _=W1 at *
    have hS0:(fun w':World=>w'.cell? ⟨W.heap.size,0,none⟩=some (.int .i64 4)∧w'.cell? ⟨W.heap.size,1,none⟩=some (.int .i64 v)∧w'.cell? ⟨W.heap.size,2,none⟩=some (.string s)) W1.drew:=hS1
    refine wp_region_held_drew (S:=fun w':World=>w'.cell? ⟨W.heap.size,0,none⟩=some (.int .i64 4)∧w'.cell? ⟨W.heap.size,1,none⟩=some (.int .i64 v)∧w'.cell? ⟨W.heap.size,2,none⟩=some (.string s)) hmx hS0 (fun hHeld=>?_)
    refine wpAnyH_take (i:=0) (v:=.pointer (some ⟨W.heap.size,1,none⟩)) rfl (by kernel_rfl) (by kernel_rfl) (by kernel_rfl) (fun _ _ _ h=>h) (Or.inl ⟨by rfl,fun w hSw=>by obtain ⟨s0,s1,s2⟩:=hSw;go_simp⟩) (by assumption) ?_
    try simp only [Act.put,n1,n2,n3,n4,n5,n6]
    refine wpAnyH_take (i:=1) (v:=.int .i64 v) rfl (by kernel_rfl) (by kernel_rfl) (by kernel_rfl) (fun _ _ _ h=>h) (Or.inl ⟨by rfl,fun w hSw=>by obtain ⟨s0,s1,s2⟩:=hSw;go_simp⟩) (by assumption) ?_
    try simp only [Act.put,n1,n2,n3,n4,n5,n6]
    refine wpAnyH_take (i:=3) (v:=.agg #[.int .i64 4,.int .i64 v,.string s]) rfl (by kernel_rfl) (by kernel_rfl) (by kernel_rfl) (fun _ _ _ h=>h) (Or.inl ⟨by rfl,fun w hSw=>by obtain ⟨s0,s1,s2⟩:=hSw;go_simp⟩) (by assumption) ?_
    try simp only [Act.put,n1,n2,n3,n4,n5,n6]
    refine wpAnyH_ready (rs:=[2]) (by kernel_rfl) (by simp) ?_
    refine AllReadyH.cons rfl (fun K hK=>?_) AllReadyH.nil
    go_simp
    go_at_call 136
    refine (ha.out _).mono ?_
    rintro e w' ⟨rfl,rfl⟩
    refine hK.out _ _ (by first|exact hS1|exact s_tb hS1 _) (fun hHeld=>?_)
    try simp only [Act.put,n1,n2,n3,n4,n5,n6]
    refine wpAnyH_ready (rs:=[4]) (by kernel_rfl) (by simp) ?_
    refine AllReadyH.cons rfl (fun K2 hK2=>?_) AllReadyH.nil
    go_simp
    go_at_call 78
    refine (hw.out _).mono ?_
    rintro e w' ⟨rfl,rfl⟩
    refine hK2.out _ _ (by first|exact hS1|exact s_tb hS1 _) (fun hHeld=>?_)
    try simp only [Act.put,n1,n2,n3,n4,n5,n6]
    refine wpAnyH_take (i:=5) (v:=.bool false) rfl (by kernel_rfl) (by kernel_rfl) (by kernel_rfl) (fun _ _ _ h=>h) (Or.inl ⟨by rfl,fun w hSw=>by obtain ⟨s0,s1,s2⟩:=hSw;go_simp⟩) (by assumption) ?_
    try simp only [Act.put,n1,n2,n3,n4,n5,n6]
    refine wpAnyH_take (i:=6) (v:=.bool false) rfl (by kernel_rfl) (by kernel_rfl) (by kernel_rfl) (fun _ _ _ h=>h) (Or.inl ⟨by rfl,fun w hSw=>by obtain ⟨s0,s1,s2⟩:=hSw;go_simp⟩) (by assumption) ?_
    try simp only [Act.put,n1,n2,n3,n4,n5,n6]
    refine wpAnyH_take (i:=7) (v:=undef) rfl (by kernel_rfl) (by kernel_rfl) (by kernel_rfl) (fun _ _ _ h=>h) (Or.inr ⟨by rfl,rfl⟩) (by assumption) ?_
    try simp only [Act.put,n1,n2,n3,n4,n5,n6]
    refine wpAnyH_take (i:=8) (v:=undef) rfl (by kernel_rfl) (by kernel_rfl) (by kernel_rfl) (fun _ _ _ h=>h) (Or.inr ⟨by rfl,rfl⟩) (by assumption) ?_
    try simp only [Act.put,n1,n2,n3,n4,n5,n6]
    refine wpAnyH_take (i:=9) (v:=undef) rfl (by kernel_rfl) (by kernel_rfl) (by kernel_rfl) (fun _ _ _ h=>h) (Or.inr ⟨by rfl,rfl⟩) (by assumption) ?_
    try simp only [Act.put,n1,n2,n3,n4,n5,n6]
    refine wpAnyH_take (i:=10) (v:=.bool false) rfl (by kernel_rfl) (by kernel_rfl) (by kernel_rfl) (fun _ _ _ h=>h) (Or.inl ⟨by rfl,fun w hSw=>by obtain ⟨s0,s1,s2⟩:=hSw;go_simp⟩) (by assumption) ?_
    try simp only [Act.put,n1,n2,n3,n4,n5,n6]
    refine wpAnyH_take (i:=11) (v:=.bool false) rfl (by kernel_rfl) (by kernel_rfl) (by kernel_rfl) (fun _ _ _ h=>h) (Or.inl ⟨by rfl,fun w hSw=>by obtain ⟨s0,s1,s2⟩:=hSw;go_simp⟩) (by assumption) ?_
    try simp only [Act.put,n1,n2,n3,n4,n5,n6]
    refine wpAnyH_done (by kernel_rfl) ?_ _
    go_wp2
    go_ret
    subst hW1
    exact ⟨rfl,by first|exact hbb.out|exact Go.below_drewN hbb.out _⟩
  ·have hw1:((if (5:Int)=5 then 2 else if (5:Int)=3∨(5:Int)=4 then 1 else 0:Nat):Int)=2:=rfl
   unfold wantZ at hw
   simp only [hw1] at hw
   clear hw1
   obtain ⟨a,hva,ha3⟩:∃a:Int,(if 1≤v∧v≤14 then (2:Int) else if 15≤v∧v≤17 then 1 else 0)=a∧((a=2∧decide (1≤v∧v≤14)=true∧decide (15≤v∧v≤17)=false)∨(a=1∧decide (1≤v∧v≤14)=false∧decide (15≤v∧v≤17)=true)∨(a=0∧decide (1≤v∧v≤14)=false∧decide (15≤v∧v≤17)=false)):=⟨_,rfl,sorts v⟩
   rw [hva] at ha
   clear hva
   rcases ha3 with ⟨rfl,d1,d2⟩|⟨rfl,d1,d2⟩|⟨rfl,d1,d2⟩
   ·simp only [d1,d2,Bool.false_and,Bool.true_and]
    clear d1 d2
    go_enter func79,ntmps79
    go_wp2_with fail
    go_region_with (first|(go_at_call 136;refine (ha.out _).mono ?_;rintro e w' ⟨rfl,rfl⟩)|(go_at_call 78;refine (hw.out _).mono ?_;rintro e w' ⟨rfl,rfl⟩))
    all_goals
     go_wp2
     go_ret
     exact ⟨rfl,by first|exact hbb.out|exact Go.below_drewN hbb.out _⟩
   ·simp only [d1,d2,Bool.false_and,Bool.true_and]
    clear d1 d2
    go_enter func79,ntmps79
    go_wp2_with fail
    have hS1:=h7_ W 5 v s
    generalize hW1:W.alloc _=W1 at *
    have hS0:(fun w':World=>w'.cell? ⟨W.heap.size,0,none⟩=some (.int .i64 5)∧w'.cell? ⟨W.heap.size,1,none⟩=some (.int .i64 v)∧w'.cell? ⟨W.heap.size,2,none⟩=some (.string s)) W1.drew:=hS1
    refine wp_region_held_drew (S:=fun w':World=>w'.cell? ⟨W.heap.size,0,none⟩=some (.int .i64 5)∧w'.cell? ⟨W.heap.size,1,none⟩=some (.int .i64 v)∧w'.cell? ⟨W.heap.size,2,none⟩=some (.string s)) hmx hS0 (fun hHeld=>?_)
    refine wpAnyH_take (i:=0) (v:=.pointer (some ⟨W.heap.size,1,none⟩)) rfl (by kernel_rfl) (by kernel_rfl) (by kernel_rfl) (fun _ _ _ h=>h) (Or.inl ⟨by rfl,fun w hSw=>by obtain ⟨s0,s1,s2⟩:=hSw;go_simp⟩) (by assumption) ?_
    try simp only [Act.put,n1,n2,n3,n4,n5,n6]
    refine wpAnyH_take (i:=1) (v:=.int .i64 v) rfl (by kernel_rfl) (by kernel_rfl) (by kernel_rfl) (fun _ _ _ h=>h) (Or.inl ⟨by rfl,fun w hSw=>by obtain ⟨s0,s1,s2⟩:=hSw;go_simp⟩) (by assumption) ?_
    try simp only [Act.put,n1,n2,n3,n4,n5,n6]
    refine wpAnyH_take (i:=3) (v:=.agg #[.int .i64 5,.int .i64 v,.string s]) rfl (by kernel_rfl) (by kernel_rfl) (by kernel_rfl) (fun _ _ _ h=>h) (Or.inl ⟨by rfl,fun w hSw=>by obtain ⟨s0,s1,s2⟩:=hSw;go_simp⟩) (by assumption) ?_
    try simp only [Act.put,n1,n2,n3,n4,n5,n6]
    refine wpAnyH_ready (rs:=[2]) (by kernel_rfl) (by simp) ?_
    refine AllReadyH.cons rfl (fun K hK=>?_) AllReadyH.nil
    go_simp
    go_at_call 136
    refine (ha.out _).mono ?_
    rintro e w' ⟨rfl,rfl⟩
    refine hK.out _ _ (by first|exact hS1|exact s_tb hS1 _) (fun hHeld=>?_)
    try simp only [Act.put,n1,n2,n3,n4,n5,n6]
    refine wpAnyH_ready (rs:=[4]) (by kernel_rfl) (by simp) ?_
    refine AllReadyH.cons rfl (fun K2 hK2=>?_) AllReadyH.nil
    go_simp
    go_at_call 78
    refine (hw.out _).mono ?_
    rintro e w' ⟨rfl,rfl⟩
    refine hK2.out _ _ (by first|exact hS1|exact s_tb hS1 _) (fun hHeld=>?_)
    try simp only [Act.put,n1,n2,n3,n4,n5,n6]
    refine wpAnyH_take (i:=5) (v:=.bool false) rfl (by kernel_rfl) (by kernel_rfl) (by kernel_rfl) (fun _ _ _ h=>h) (Or.inl ⟨by rfl,fun w hSw=>by obtain ⟨s0,s1,s2⟩:=hSw;go_simp⟩) (by assumption) ?_
    try simp only [Act.put,n1,n2,n3,n4,n5,n6]
    refine wpAnyH_take (i:=6) (v:=.bool false) rfl (by kernel_rfl) (by kernel_rfl) (by kernel_rfl) (fun _ _ _ h=>h) (Or.inl ⟨by rfl,fun w hSw=>by obtain ⟨s0,s1,s2⟩:=hSw;go_simp⟩) (by assumption) ?_
    try simp only [Act.put,n1,n2,n3,n4,n5,n6]
    refine wpAnyH_take (i:=7) (v:=undef) rfl (by kernel_rfl) (by kernel_rfl) (by kernel_rfl) (fun _ _ _ h=>h) (Or.inr ⟨by rfl,rfl⟩) (by assumption) ?_
    try simp only [Act.put,n1,n2,n3,n4,n5,n6]
    refine wpAnyH_take (i:=8) (v:=undef) rfl (by kernel_rfl) (by kernel_rfl) (by kernel_rfl) (fun _ _ _ h=>h) (Or.inr ⟨by rfl,rfl⟩) (by assumption) ?_
    try simp only [Act.put,n1,n2,n3,n4,n5,n6]
    refine wpAnyH_take (i:=9) (v:=undef) rfl (by kernel_rfl) (by kernel_rfl) (by kernel_rfl) (fun _ _ _ h=>h) (Or.inr ⟨by rfl,rfl⟩) (by assumption) ?_
    try simp only [Act.put,n1,n2,n3,n4,n5,n6]
    refine wpAnyH_take (i:=10) (v:=.bool false) rfl (by kernel_rfl) (by kernel_rfl) (by kernel_rfl) (fun _ _ _ h=>h) (Or.inl ⟨by rfl,fun w hSw=>by obtain ⟨s0,s1,s2⟩:=hSw;go_simp⟩) (by assumption) ?_
    try simp only [Act.put,n1,n2,n3,n4,n5,n6]
    refine wpAnyH_take (i:=11) (v:=.bool false) rfl (by kernel_rfl) (by kernel_rfl) (by kernel_rfl) (fun _ _ _ h=>h) (Or.inl ⟨by rfl,fun w hSw=>by obtain ⟨s0,s1,s2⟩:=hSw;go_simp⟩) (by assumption) ?_
    try simp only [Act.put,n1,n2,n3,n4,n5,n6]
    refine wpAnyH_done (by kernel_rfl) ?_ _
    go_wp2
    go_ret
    subst hW1
    exact ⟨rfl,by first|exact hbb.out|exact Go.below_drewN hbb.out _⟩
   ·simp only [d1,d2,Bool.false_and,Bool.true_and]
    clear d1 d2
    go_enter func79,ntmps79
    go_wp2_with fail
    have hS1:=h7_ W 5 v s
    generalize hW1:W.alloc _=W1 at *
    have hS0:(fun w':World=>w'.cell? ⟨W.heap.size,0,none⟩=some (.int .i64 5)∧w'.cell? ⟨W.heap.size,1,none⟩=some (.int .i64 v)∧w'.cell? ⟨W.heap.size,2,none⟩=some (.string s)) W1.drew:=hS1
    refine wp_region_held_drew (S:=fun w':World=>w'.cell? ⟨W.heap.size,0,none⟩=some (.int .i64 5)∧w'.cell? ⟨W.heap.size,1,none⟩=some (.int .i64 v)∧w'.cell? ⟨W.heap.size,2,none⟩=some (.string s)) hmx hS0 (fun hHeld=>?_)
    refine wpAnyH_take (i:=0) (v:=.pointer (some ⟨W.heap.size,1,none⟩)) rfl (by kernel_rfl) (by kernel_rfl) (by kernel_rfl) (fun _ _ _ h=>h) (Or.inl ⟨by rfl,fun w hSw=>by obtain ⟨s0,s1,s2⟩:=hSw;go_simp⟩) (by assumption) ?_
    try simp only [Act.put,n1,n2,n3,n4,n5,n6]
    refine wpAnyH_take (i:=1) (v:=.int .i64 v) rfl (by kernel_rfl) (by kernel_rfl) (by kernel_rfl) (fun _ _ _ h=>h) (Or.inl ⟨by rfl,fun w hSw=>by obtain ⟨s0,s1,s2⟩:=hSw;go_simp⟩) (by assumption) ?_
    try simp only [Act.put,n1,n2,n3,n4,n5,n6]
    refine wpAnyH_take (i:=3) (v:=.agg #[.int .i64 5,.int .i64 v,.string s]) rfl (by kernel_rfl) (by kernel_rfl) (by kernel_rfl) (fun _ _ _ h=>h) (Or.inl ⟨by rfl,fun w hSw=>by obtain ⟨s0,s1,s2⟩:=hSw;go_simp⟩) (by assumption) ?_
    try simp only [Act.put,n1,n2,n3,n4,n5,n6]
    refine wpAnyH_ready (rs:=[2]) (by kernel_rfl) (by simp) ?_
    refine AllReadyH.cons rfl (fun K hK=>?_) AllReadyH.nil
    go_simp
    go_at_call 136
    refine (ha.out _).mono ?_
    rintro e w' ⟨rfl,rfl⟩
    refine hK.out _ _ (by first|exact hS1|exact s_tb hS1 _) (fun hHeld=>?_)
    try simp only [Act.put,n1,n2,n3,n4,n5,n6]
    refine wpAnyH_ready (rs:=[4]) (by kernel_rfl) (by simp) ?_
    refine AllReadyH.cons rfl (fun K2 hK2=>?_) AllReadyH.nil
    go_simp
    go_at_call 78
    refine (hw.out _).mono ?_
    rintro e w' ⟨rfl,rfl⟩
    refine hK2.out _ _ (by first|exact hS1|exact s_tb hS1 _) (fun hHeld=>?_)
    try simp only [Act.put,n1,n2,n3,n4,n5,n6]
    refine wpAnyH_take (i:=5) (v:=.bool false) rfl (by kernel_rfl) (by kernel_rfl) (by kernel_rfl) (fun _ _ _ h=>h) (Or.inl ⟨by rfl,fun w hSw=>by obtain ⟨s0,s1,s2⟩:=hSw;go_simp⟩) (by assumption) ?_
    try simp only [Act.put,n1,n2,n3,n4,n5,n6]
    refine wpAnyH_take (i:=6) (v:=.bool false) rfl (by kernel_rfl) (by kernel_rfl) (by kernel_rfl) (fun _ _ _ h=>h) (Or.inl ⟨by rfl,fun w hSw=>by obtain ⟨s0,s1,s2⟩:=hSw;go_simp⟩) (by assumption) ?_
    try simp only [Act.put,n1,n2,n3,n4,n5,n6]
    refine wpAnyH_take (i:=7) (v:=undef) rfl (by kernel_rfl) (by kernel_rfl) (by kernel_rfl) (fun _ _ _ h=>h) (Or.inr ⟨by rfl,rfl⟩) (by assumption) ?_
    try simp only [Act.put,n1,n2,n3,n4,n5,n6]
    refine wpAnyH_take (i:=8) (v:=undef) rfl (by kernel_rfl) (by kernel_rfl) (by kernel_rfl) (fun _ _ _ h=>h) (Or.inr ⟨by rfl,rfl⟩) (by assumption) ?_
    try simp only [Act.put,n1,n2,n3,n4,n5,n6]
    refine wpAnyH_take (i:=9) (v:=undef) rfl (by kernel_rfl) (by kernel_rfl) (by kernel_rfl) (fun _ _ _ h=>h) (Or.inr ⟨by rfl,rfl⟩) (by assumption) ?_
    try simp only [Act.put,n1,n2,n3,n4,n5,n6]
    refine wpAnyH_take (i:=10) (v:=.bool false) rfl (by kernel_rfl) (by kernel_rfl) (by kernel_rfl) (fun _ _ _ h=>h) (Or.inl ⟨by rfl,fun w hSw=>by obtain ⟨s0,s1,s2⟩:=hSw;go_simp⟩) (by assumption) ?_
    try simp only [Act.put,n1,n2,n3,n4,n5,n6]
    refine wpAnyH_take (i:=11) (v:=.bool false) rfl (by kernel_rfl) (by kernel_rfl) (by kernel_rfl) (fun _ _ _ h=>h) (Or.inl ⟨by rfl,fun w hSw=>by obtain ⟨s0,s1,s2⟩:=hSw;go_simp⟩) (by assumption) ?_
    try simp only [Act.put,n1,n2,n3,n4,n5,n6]
    refine wpAnyH_done (by kernel_rfl) ?_ _
    go_wp2
    go_ret
    subst hW1
    exact ⟨rfl,by first|exact hbb.out|exact Go.below_drewN hbb.out _⟩
 have e1:(k == 1)=false:=by simpa using h1
 have e2:(k == 2)=false:=by simpa using h2
 have e3:(k == 3)=false:=by simpa using h3
 have e4:(k == 4)=false:=by simp;omega
 have e5:(k == 5)=false:=by simp;omega
 rw [if_neg (by omega),if_neg (by omega)]
 clear h45
 go_enter func79,ntmps79
 go_wp2
 go_ret
 exact ⟨rfl,HB.out⟩
end
end Go.Proofs.YtpcniebkabkikaaGreatDoor
