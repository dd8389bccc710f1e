/- Instructions: the table as lists; isKnown, Operand, May, Name of package code; in every memory. Table and May of the document's answer, in every memory. May of the document's answer, Name and ByName of both, in every memory. Memory that has been handed out and is not written again; what a call may h -/
import Derived.Test.YtbfkgcapkffecaaImWritesPR2
import Derived.Laws.Tables
import Derived.Laws.Rows
import Derived.Below
import Derived.Deep.Draws
import Derived.Laws.AppendOwn
import Derived.Test.YtbfkgcapkffecaaProg
import Derived.WalkKit
import Derived.WalkLawsBesides
import Derived.Outline
import Derived.Lib.Hide
import Derived.LoopTactic
import Derived.Lib.Strings
import Derived.Maps.AppendAt
import Derived.Deep.OwnRows
import Derived.Laws.OwnMore
namespace Go.Proofs.Ytbfkgcapkffecaa
open Go Go.RowKit
def nmL:List ByteArray:=[⟨#[]⟩,⟨#[97,100,100]⟩,⟨#[115,117,98]⟩,⟨#[109,117,108]⟩,⟨#[100,105,118]⟩,⟨#[114,101,109]⟩,⟨#[97,110,100]⟩,⟨#[111,114]⟩,⟨#[120,111,114]⟩,⟨#[115,104,108]⟩,⟨#[115,104,114]⟩,⟨#[101,113]⟩,⟨#[110,101]⟩,⟨#[108,116]⟩,⟨#[108,101]⟩,⟨#[110,101,103]⟩,⟨#[110,111,116]⟩,⟨#[105,110,118]⟩,⟨#[]⟩,⟨#[]⟩,⟨#[]⟩,⟨#[]⟩,⟨#[]⟩,⟨#[]⟩,⟨#[]⟩,⟨#[]⟩,⟨#[]⟩,⟨#[]⟩,⟨#[]⟩,⟨#[]⟩,⟨#[]⟩,⟨#[]⟩,⟨#[99,111,110,115,116]⟩,⟨#[108,111,99,97,108]⟩,⟨#[115,101,116]⟩,⟨#[103,108,111,98,97,108]⟩,⟨#[115,101,116,103,108,111,98,97,108]⟩,⟨#[108,111,97,100]⟩,⟨#[115,116,111,114,101]⟩,⟨#[100,117,112]⟩,⟨#[115,119,97,112]⟩,⟨#[112,111,112]⟩,⟨#[110,111,112]⟩,⟨#[106,117,109,112]⟩,⟨#[122,101,114,111]⟩,⟨#[99,97,108,108]⟩,⟨#[114,101,116,117,114,110]⟩,⟨#[115,101,110,100]⟩]
def poL:List Int:=[0,2,2,2,2,2,2,2,2,2,2,2,2,2,2,1,1,1,0,0,0,0,0,0,0,0,0,0,0,0,0,0,0,0,1,0,1,1,2,1,2,1,0,0,1,-1,-1,1]
def puL:List Int:=[0,1,1,1,1,1,1,1,1,1,1,1,1,1,1,1,1,1,0,0,0,0,0,0,0,0,0,0,0,0,0,0,1,1,0,1,0,1,0,2,2,0,0,0,0,-1,0,0]
def kiL:List Int:=[0,0,0,0,0,0,0,0,0,0,0,0,0,0,0,0,0,0,0,0,0,0,0,0,0,0,0,0,0,0,0,0,1,2,2,3,3,4,4,0,0,0,0,5,5,6,0,7]
def nmI (op:Int):ByteArray:=nmL.getD op.toNat ⟨#[]⟩
def poI (op:Int):Int:=poL.getD op.toNat 0
def puI (op:Int):Int:=puL.getD op.toNat 0
def kiI (op:Int):Int:=kiL.getD op.toNat 0
def knI (op:Int):Bool:=decide (1≤op∧op≤17 ∨ 32≤op∧op≤47)
def opdI (op:Int):Bool:=knI op && decide (0<kiI op)
def mayI (op a:Int):Bool:=knI op && (if kiI op=0 then decide (a=0) else decide (kiI op=1) || decide (0≤a))
theorem knI_cases {op:Int} (h:knI op=true):op=1 ∨ op=2 ∨ op=3 ∨ op=4 ∨ op=5 ∨ op=6 ∨ op=7 ∨ op=8 ∨ op=9 ∨ op=10 ∨ op=11 ∨ op=12 ∨ op=13 ∨ op=14 ∨ op=15 ∨ op=16 ∨ op=17 ∨ op=32 ∨ op=33 ∨ op=34 ∨ op=35 ∨ op=36 ∨ op=37 ∨ op=38 ∨ op=39 ∨ op=40 ∨ op=41 ∨ op=42 ∨ op=43 ∨ op=44 ∨ op=45 ∨ op=46 ∨ op=47:=by
  unfold knI at h
  rw [decide_eq_true_iff] at h
  omega
theorem knI_not {op:Int} (h:knI op=false):op ≠ 1∧op ≠ 2∧op ≠ 3∧op ≠ 4∧op ≠ 5∧op ≠ 6∧op ≠ 7∧op ≠ 8∧op ≠ 9∧op ≠ 10∧op ≠ 11∧op ≠ 12∧op ≠ 13∧op ≠ 14∧op ≠ 15∧op ≠ 16∧op ≠ 17∧op ≠ 32∧op ≠ 33∧op ≠ 34∧op ≠ 35∧op ≠ 36∧op ≠ 37∧op ≠ 38∧op ≠ 39∧op ≠ 40∧op ≠ 41∧op ≠ 42∧op ≠ 43∧op ≠ 44∧op ≠ 45∧op ≠ 46∧op ≠ 47:=by
  unfold knI at h
  rw [decide_eq_false_iff_not] at h
  omega
theorem opdI_iff {op:Int} (h:opdI op=true):op=32 ∨ op=33 ∨ op=34 ∨ op=35 ∨ op=36 ∨ op=37 ∨ op=38 ∨ op=43 ∨ op=44 ∨ op=45 ∨ op=47:=by
  unfold opdI at h
  rw [Bool.and_eq_true] at h
  obtain ⟨h1,h2⟩:=h
  rcases knI_cases h1 with rfl | rfl | rfl | rfl | rfl | rfl | rfl | rfl | rfl | rfl | rfl | rfl | rfl | rfl | rfl | rfl | rfl | rfl | rfl | rfl | rfl | rfl | rfl | rfl | rfl | rfl | rfl | rfl | rfl | rfl | rfl | rfl | rfl
  all_goals first
    | omega
    | (exfalso;revert h2;decide)
theorem opdI_not {op:Int} (h:opdI op=false):op ≠ 32∧op ≠ 33∧op ≠ 34∧op ≠ 35∧op ≠ 36∧op ≠ 37∧op ≠ 38∧op ≠ 43∧op ≠ 44∧op ≠ 45∧op ≠ 47:=by
  refine ⟨?_,?_,?_,?_,?_,?_,?_,?_,?_,?_,?_⟩
  all_goals
    rintro rfl
    revert h
    decide
set_option maxRecDepth 100000 in
theorem isKnown_any (op:Int) (w:World):Calls Try.prog 51 #[.int .i64 op] w fun e w'=>e=.returned (.bool (knI op))∧w=w':=by
  by_cases h1:1≤op
  · by_cases h2:op≤17
    · have e:knI op=true:=by unfold knI;rw [decide_eq_true_iff];omega
      rw [e]
      clear e
      go_enter Try.func51,Try.ntmps51
      go_wp2
      go_ret
      exact ⟨rfl,rfl⟩
    · by_cases h3:32≤op
      · by_cases h4:op≤47
        · have e:knI op=true:=by unfold knI;rw [decide_eq_true_iff];omega
          rw [e]
          clear e
          go_enter Try.func51,Try.ntmps51
          go_wp2
          go_ret
          exact ⟨rfl,rfl⟩
        · have e:knI op=false:=by unfold knI;rw [decide_eq_false_iff_not];omega
          rw [e]
          clear e
          go_enter Try.func51,Try.ntmps51
          go_wp2
          go_ret
          exact ⟨rfl,rfl⟩
      · have e:knI op=false:=by unfold knI;rw [decide_eq_false_iff_not];omega
        rw [e]
        clear e
        go_enter Try.func51,Try.ntmps51
        go_wp2
        go_ret
        exact ⟨rfl,rfl⟩
  · have h3:¬ 32≤op:=by omega
    have e:knI op=false:=by unfold knI;rw [decide_eq_false_iff_not];omega
    rw [e]
    clear e
    go_enter Try.func51,Try.ntmps51
    go_wp2
    go_ret
    exact ⟨rfl,rfl⟩
set_option maxRecDepth 100000 in
set_option maxHeartbeats 1000000 in
theorem Operand_any (op:Int) (w:World):Calls Try.prog 52 #[.int .i64 op] w fun e w'=>e=.returned (.bool (opdI op))∧w=w':=by
  cases h:opdI op
  · obtain ⟨n1,n2,n3,n4,n5,n6,n7,n8,n9,n10,n11⟩:=opdI_not h
    clear h
    go_enter Try.func52,Try.ntmps52
    go_wp2
    go_ret
    exact ⟨rfl,rfl⟩
  · rcases opdI_iff h with rfl | rfl | rfl | rfl | rfl | rfl | rfl | rfl | rfl | rfl | rfl
    all_goals
      clear h
      go_enter Try.func52,Try.ntmps52
      go_wp2
      go_ret
      exact ⟨rfl,rfl⟩
abbrev inV (op a:Int):Value:=.agg #[.int .i64 op,.int .i64 a]
theorem mayI_none {op:Int} (h:knI op=false) (a:Int):mayI op a=false:=by unfold mayI;rw [h];rfl
theorem mayI_plain {op:Int} (h:knI op=true) (h2:opdI op=false) (a:Int):mayI op a=decide (a=0):=by
  have h0:kiI op=0:=by
    rcases knI_cases h with rfl | rfl | rfl | rfl | rfl | rfl | rfl | rfl | rfl | rfl | rfl | rfl | rfl | rfl | rfl | rfl | rfl | rfl | rfl | rfl | rfl | rfl | rfl | rfl | rfl | rfl | rfl | rfl | rfl | rfl | rfl | rfl | rfl
    all_goals first
      | rfl
      | (exfalso;revert h2;decide)
  unfold mayI
  rw [h,if_pos h0]
  rfl
theorem mayI_const (a:Int):mayI 32 a=true:=by
  unfold mayI
  rfl
theorem kiI_one {op:Int} (h:kiI op=1):op=32:=by
  by_cases hk:knI op=true
  · rcases knI_cases hk with rfl | rfl | rfl | rfl | rfl | rfl | rfl | rfl | rfl | rfl | rfl | rfl | rfl | rfl | rfl | rfl | rfl | rfl | rfl | rfl | rfl | rfl | rfl | rfl | rfl | rfl | rfl | rfl | rfl | rfl | rfl | rfl | rfl
    all_goals first
      | rfl
      | (exfalso;revert h;decide)
  · exfalso
    unfold kiI at h
    by_cases h2:op.toNat<48
    · have h3:∀ k:Fin 48,kiL.getD k.val 0=1→k.val=32:=by decide
      have:=h3 ⟨op.toNat,h2⟩ h
      apply hk
      unfold knI
      rw [decide_eq_true_iff]
      simp only at this
      omega
    · rw [List.getD_eq_getElem?_getD,List.getElem?_eq_none (by show 48≤_;omega)] at h
      cases h
theorem mayI_unsigned {op:Int} (h2:opdI op=true) (h3:op ≠ 32) (a:Int):mayI op a=decide (0≤a):=by
  have h:=h2
  unfold opdI at h
  rw [Bool.and_eq_true,decide_eq_true_iff] at h
  have h1:¬ kiI op=1:=fun e=>h3 (kiI_one e)
  unfold mayI
  rw [h.1,if_neg (by omega),decide_eq_false h1]
  rfl
set_option maxRecDepth 100000 in
set_option maxHeartbeats 1000000 in
theorem May_any (op a:Int) (w:World):Calls Try.prog 29 #[inV op a] w fun e w'=>e=.returned (.bool (mayI op a))∧Below w.heap.size w w':=by
  have HK:=Lib.hid (isKnown_any op)
  have HO:=Lib.hid (Operand_any op)
  cases hk:knI op
  · rw [mayI_none hk]
    rw [hk] at HK
    clear hk HO
    go_enter Try.func29,Try.ntmps29
    go_wp2_with fail
    refine (HK.out _).mono ?_
    rintro e w1 ⟨rfl,rfl⟩
    go_wp2
    go_ret
    exact ⟨rfl,(Below.refl _ w).alloc (Nat.le_refl _) _⟩
  · rw [hk] at HK
    cases ho:opdI op
    · rw [mayI_plain hk ho]
      rw [ho] at HO
      clear hk ho
      go_enter Try.func29,Try.ntmps29
      go_wp2_with fail
      refine (HK.out _).mono ?_
      rintro e w1 ⟨rfl,rfl⟩
      go_wp2_with fail
      refine (HO.out _).mono ?_
      rintro e w1 ⟨rfl,rfl⟩
      by_cases ha:a=0
      · subst ha
        go_wp2
        go_ret
        exact ⟨rfl,(Below.refl _ w).alloc (Nat.le_refl _) _⟩
      · go_wp2
        go_ret
        refine ⟨?_,(Below.refl _ w).alloc (Nat.le_refl _) _⟩
        simp [ha]
    · rw [ho] at HO
      by_cases h32:op=32
      · subst h32
        rw [mayI_const]
        clear hk ho
        go_enter Try.func29,Try.ntmps29
        go_wp2_with fail
        refine (HK.out _).mono ?_
        rintro e w1 ⟨rfl,rfl⟩
        go_wp2_with fail
        refine (HO.out _).mono ?_
        rintro e w1 ⟨rfl,rfl⟩
        go_wp2
        go_ret
        exact ⟨rfl,(Below.refl _ w).alloc (Nat.le_refl _) _⟩
      · rw [mayI_unsigned ho h32]
        clear hk ho
        go_enter Try.func29,Try.ntmps29
        go_wp2_with fail
        refine (HK.out _).mono ?_
        rintro e w1 ⟨rfl,rfl⟩
        go_wp2_with fail
        refine (HO.out _).mono ?_
        rintro e w1 ⟨rfl,rfl⟩
        by_cases ha:0≤a
        all_goals
          go_wp2
          go_ret
          refine ⟨?_,(Below.refl _ w).alloc (Nat.le_refl _) _⟩
          simp [ha,h32]
end Go.Proofs.Ytbfkgcapkffecaa
namespace Go.Proofs.Ytbfkgcapkffecaa
open Go Go.RowKit
abbrev rwV (op:Int):Value:=.agg #[.string (nmI op),.int .i64 (poI op),.int .i64 (puI op),.int .i64 (kiI op)]
def tbV (op:Int):Value:=.tuple #[rwV op,.bool (knI op)]
theorem out_default {op:Int} (h:knI op=false):nmI op=⟨#[]⟩∧poI op=0∧puI op=0∧kiI op=0:=by
  unfold nmI poI puI kiI
  by_cases h2:op.toNat<48
  · have h3:∀ k:Fin 48,knI k.val=false→nmL.getD k.val ⟨#[]⟩=⟨#[]⟩∧poL.getD k.val 0=0∧puL.getD k.val 0=0∧kiL.getD k.val 0=0:=by decide
    refine h3 ⟨op.toNat,h2⟩ ?_
    show knI ((op.toNat:Nat):Int)=false
    by_cases h0:0≤op
    · rw [show ((op.toNat:Nat):Int)=op from by omega];exact h
    · rw [show op.toNat=0 from by omega];rfl
  · simp only [List.getD_eq_getElem?_getD]
    rw [List.getElem?_eq_none (by show 48≤_;omega),List.getElem?_eq_none (by show 48≤_;omega),List.getElem?_eq_none (by show 48≤_;omega),List.getElem?_eq_none (by show 48≤_;omega)]
    exact ⟨rfl,rfl,rfl,rfl⟩
set_option maxRecDepth 100000 in
set_option maxHeartbeats 1000000 in
theorem Table_1 (w:World):Calls Try.prog 89 #[.int .i64 1] w fun e w'=>e=.returned (tbV 1)∧Below w.heap.size w w':=by
  rw [show tbV 1=.tuple #[.agg #[.string ⟨#[97,100,100]⟩,.int .i64 (2),.int .i64 (1),.int .i64 (0)],.bool true] from rfl]
  go_enter Try.func89,Try.ntmps89
  go_wp2
  try simp only [Exit.inBlock,Exit.then]
  refine bodyPost_ret (v:=.tuple #[.agg #[.string ⟨#[97,100,100]⟩,.int .i64 (2),.int .i64 (1),.int .i64 (0)],.bool true]) (by simp [results,Try.results89,go_sem]) rfl ⟨rfl,?_⟩
  first
    | exact (Below.refl _ _).alloc (Nat.le_refl _) _
    | exact ((Below.refl _ _).alloc (Nat.le_refl _) _).alloc (by simp) _
set_option maxRecDepth 100000 in
set_option maxHeartbeats 1000000 in
theorem Table_2 (w:World):Calls Try.prog 89 #[.int .i64 2] w fun e w'=>e=.returned (tbV 2)∧Below w.heap.size w w':=by
  rw [show tbV 2=.tuple #[.agg #[.string ⟨#[115,117,98]⟩,.int .i64 (2),.int .i64 (1),.int .i64 (0)],.bool true] from rfl]
  go_enter Try.func89,Try.ntmps89
  go_wp2
  try simp only [Exit.inBlock,Exit.then]
  refine bodyPost_ret (v:=.tuple #[.agg #[.string ⟨#[115,117,98]⟩,.int .i64 (2),.int .i64 (1),.int .i64 (0)],.bool true]) (by simp [results,Try.results89,go_sem]) rfl ⟨rfl,?_⟩
  first
    | exact (Below.refl _ _).alloc (Nat.le_refl _) _
    | exact ((Below.refl _ _).alloc (Nat.le_refl _) _).alloc (by simp) _
set_option maxRecDepth 100000 in
set_option maxHeartbeats 1000000 in
theorem Table_3 (w:World):Calls Try.prog 89 #[.int .i64 3] w fun e w'=>e=.returned (tbV 3)∧Below w.heap.size w w':=by
  rw [show tbV 3=.tuple #[.agg #[.string ⟨#[109,117,108]⟩,.int .i64 (2),.int .i64 (1),.int .i64 (0)],.bool true] from rfl]
  go_enter Try.func89,Try.ntmps89
  go_wp2
  try simp only [Exit.inBlock,Exit.then]
  refine bodyPost_ret (v:=.tuple #[.agg #[.string ⟨#[109,117,108]⟩,.int .i64 (2),.int .i64 (1),.int .i64 (0)],.bool true]) (by simp [results,Try.results89,go_sem]) rfl ⟨rfl,?_⟩
  first
    | exact (Below.refl _ _).alloc (Nat.le_refl _) _
    | exact ((Below.refl _ _).alloc (Nat.le_refl _) _).alloc (by simp) _
set_option maxRecDepth 100000 in
set_option maxHeartbeats 1000000 in
theorem Table_4 (w:World):Calls Try.prog 89 #[.int .i64 4] w fun e w'=>e=.returned (tbV 4)∧Below w.heap.size w w':=by
  rw [show tbV 4=.tuple #[.agg #[.string ⟨#[100,105,118]⟩,.int .i64 (2),.int .i64 (1),.int .i64 (0)],.bool true] from rfl]
  go_enter Try.func89,Try.ntmps89
  go_wp2
  try simp only [Exit.inBlock,Exit.then]
  refine bodyPost_ret (v:=.tuple #[.agg #[.string ⟨#[100,105,118]⟩,.int .i64 (2),.int .i64 (1),.int .i64 (0)],.bool true]) (by simp [results,Try.results89,go_sem]) rfl ⟨rfl,?_⟩
  first
    | exact (Below.refl _ _).alloc (Nat.le_refl _) _
    | exact ((Below.refl _ _).alloc (Nat.le_refl _) _).alloc (by simp) _
set_option maxRecDepth 100000 in
set_option maxHeartbeats 1000000 in
theorem Table_5 (w:World):Calls Try.prog 89 #[.int .i64 5] w fun e w'=>e=.returned (tbV 5)∧Below w.heap.size w w':=by
  rw [show tbV 5=.tuple #[.agg #[.string ⟨#[114,101,109]⟩,.int .i64 (2),.int .i64 (1),.int .i64 (0)],.bool true] from rfl]
  go_enter Try.func89,Try.ntmps89
  go_wp2
  try simp only [Exit.inBlock,Exit.then]
  refine bodyPost_ret (v:=.tuple #[.agg #[.string ⟨#[114,101,109]⟩,.int .i64 (2),.int .i64 (1),.int .i64 (0)],.bool true]) (by simp [results,Try.results89,go_sem]) rfl ⟨rfl,?_⟩
  first
    | exact (Below.refl _ _).alloc (Nat.le_refl _) _
    | exact ((Below.refl _ _).alloc (Nat.le_refl _) _).alloc (by simp) _
set_option maxRecDepth 100000 in
set_option maxHeartbeats 1000000 in
theorem Table_6 (w:World):Calls Try.prog 89 #[.int .i64 6] w fun e w'=>e=.returned (tbV 6)∧Below w.heap.size w w':=by
  rw [show tbV 6=.tuple #[.agg #[.string ⟨#[97,110,100]⟩,.int .i64 (2),.int .i64 (1),.int .i64 (0)],.bool true] from rfl]
  go_enter Try.func89,Try.ntmps89
  go_wp2
  try simp only [Exit.inBlock,Exit.then]
  refine bodyPost_ret (v:=.tuple #[.agg #[.string ⟨#[97,110,100]⟩,.int .i64 (2),.int .i64 (1),.int .i64 (0)],.bool true]) (by simp [results,Try.results89,go_sem]) rfl ⟨rfl,?_⟩
  first
    | exact (Below.refl _ _).alloc (Nat.le_refl _) _
    | exact ((Below.refl _ _).alloc (Nat.le_refl _) _).alloc (by simp) _
set_option maxRecDepth 100000 in
set_option maxHeartbeats 1000000 in
theorem Table_7 (w:World):Calls Try.prog 89 #[.int .i64 7] w fun e w'=>e=.returned (tbV 7)∧Below w.heap.size w w':=by
  rw [show tbV 7=.tuple #[.agg #[.string ⟨#[111,114]⟩,.int .i64 (2),.int .i64 (1),.int .i64 (0)],.bool true] from rfl]
  go_enter Try.func89,Try.ntmps89
  go_wp2
  try simp only [Exit.inBlock,Exit.then]
  refine bodyPost_ret (v:=.tuple #[.agg #[.string ⟨#[111,114]⟩,.int .i64 (2),.int .i64 (1),.int .i64 (0)],.bool true]) (by simp [results,Try.results89,go_sem]) rfl ⟨rfl,?_⟩
  first
    | exact (Below.refl _ _).alloc (Nat.le_refl _) _
    | exact ((Below.refl _ _).alloc (Nat.le_refl _) _).alloc (by simp) _
set_option maxRecDepth 100000 in
set_option maxHeartbeats 1000000 in
theorem Table_8 (w:World):Calls Try.prog 89 #[.int .i64 8] w fun e w'=>e=.returned (tbV 8)∧Below w.heap.size w w':=by
  rw [show tbV 8=.tuple #[.agg #[.string ⟨#[120,111,114]⟩,.int .i64 (2),.int .i64 (1),.int .i64 (0)],.bool true] from rfl]
  go_enter Try.func89,Try.ntmps89
  go_wp2
  try simp only [Exit.inBlock,Exit.then]
  refine bodyPost_ret (v:=.tuple #[.agg #[.string ⟨#[120,111,114]⟩,.int .i64 (2),.int .i64 (1),.int .i64 (0)],.bool true]) (by simp [results,Try.results89,go_sem]) rfl ⟨rfl,?_⟩
  first
    | exact (Below.refl _ _).alloc (Nat.le_refl _) _
    | exact ((Below.refl _ _).alloc (Nat.le_refl _) _).alloc (by simp) _
set_option maxRecDepth 100000 in
set_option maxHeartbeats 1000000 in
theorem Table_9 (w:World):Calls Try.prog 89 #[.int .i64 9] w fun e w'=>e=.returned (tbV 9)∧Below w.heap.size w w':=by
  rw [show tbV 9=.tuple #[.agg #[.string ⟨#[115,104,108]⟩,.int .i64 (2),.int .i64 (1),.int .i64 (0)],.bool true] from rfl]
  go_enter Try.func89,Try.ntmps89
  go_wp2
  try simp only [Exit.inBlock,Exit.then]
  refine bodyPost_ret (v:=.tuple #[.agg #[.string ⟨#[115,104,108]⟩,.int .i64 (2),.int .i64 (1),.int .i64 (0)],.bool true]) (by simp [results,Try.results89,go_sem]) rfl ⟨rfl,?_⟩
  first
    | exact (Below.refl _ _).alloc (Nat.le_refl _) _
    | exact ((Below.refl _ _).alloc (Nat.le_refl _) _).alloc (by simp) _
set_option maxRecDepth 100000 in
set_option maxHeartbeats 1000000 in
theorem Table_10 (w:World):Calls Try.prog 89 #[.int .i64 10] w fun e w'=>e=.returned (tbV 10)∧Below w.heap.size w w':=by
  rw [show tbV 10=.tuple #[.agg #[.string ⟨#[115,104,114]⟩,.int .i64 (2),.int .i64 (1),.int .i64 (0)],.bool true] from rfl]
  go_enter Try.func89,Try.ntmps89
  go_wp2
  try simp only [Exit.inBlock,Exit.then]
  refine bodyPost_ret (v:=.tuple #[.agg #[.string ⟨#[115,104,114]⟩,.int .i64 (2),.int .i64 (1),.int .i64 (0)],.bool true]) (by simp [results,Try.results89,go_sem]) rfl ⟨rfl,?_⟩
  first
    | exact (Below.refl _ _).alloc (Nat.le_refl _) _
    | exact ((Below.refl _ _).alloc (Nat.le_refl _) _).alloc (by simp) _
set_option maxRecDepth 100000 in
set_option maxHeartbeats 1000000 in
theorem Table_11 (w:World):Calls Try.prog 89 #[.int .i64 11] w fun e w'=>e=.returned (tbV 11)∧Below w.heap.size w w':=by
  rw [show tbV 11=.tuple #[.agg #[.string ⟨#[101,113]⟩,.int .i64 (2),.int .i64 (1),.int .i64 (0)],.bool true] from rfl]
  go_enter Try.func89,Try.ntmps89
  go_wp2
  try simp only [Exit.inBlock,Exit.then]
  refine bodyPost_ret (v:=.tuple #[.agg #[.string ⟨#[101,113]⟩,.int .i64 (2),.int .i64 (1),.int .i64 (0)],.bool true]) (by simp [results,Try.results89,go_sem]) rfl ⟨rfl,?_⟩
  first
    | exact (Below.refl _ _).alloc (Nat.le_refl _) _
    | exact ((Below.refl _ _).alloc (Nat.le_refl _) _).alloc (by simp) _
set_option maxRecDepth 100000 in
set_option maxHeartbeats 1000000 in
theorem Table_12 (w:World):Calls Try.prog 89 #[.int .i64 12] w fun e w'=>e=.returned (tbV 12)∧Below w.heap.size w w':=by
  rw [show tbV 12=.tuple #[.agg #[.string ⟨#[110,101]⟩,.int .i64 (2),.int .i64 (1),.int .i64 (0)],.bool true] from rfl]
  go_enter Try.func89,Try.ntmps89
  go_wp2
  try simp only [Exit.inBlock,Exit.then]
  refine bodyPost_ret (v:=.tuple #[.agg #[.string ⟨#[110,101]⟩,.int .i64 (2),.int .i64 (1),.int .i64 (0)],.bool true]) (by simp [results,Try.results89,go_sem]) rfl ⟨rfl,?_⟩
  first
    | exact (Below.refl _ _).alloc (Nat.le_refl _) _
    | exact ((Below.refl _ _).alloc (Nat.le_refl _) _).alloc (by simp) _
set_option maxRecDepth 100000 in
set_option maxHeartbeats 1000000 in
theorem Table_13 (w:World):Calls Try.prog 89 #[.int .i64 13] w fun e w'=>e=.returned (tbV 13)∧Below w.heap.size w w':=by
  rw [show tbV 13=.tuple #[.agg #[.string ⟨#[108,116]⟩,.int .i64 (2),.int .i64 (1),.int .i64 (0)],.bool true] from rfl]
  go_enter Try.func89,Try.ntmps89
  go_wp2
  try simp only [Exit.inBlock,Exit.then]
  refine bodyPost_ret (v:=.tuple #[.agg #[.string ⟨#[108,116]⟩,.int .i64 (2),.int .i64 (1),.int .i64 (0)],.bool true]) (by simp [results,Try.results89,go_sem]) rfl ⟨rfl,?_⟩
  first
    | exact (Below.refl _ _).alloc (Nat.le_refl _) _
    | exact ((Below.refl _ _).alloc (Nat.le_refl _) _).alloc (by simp) _
set_option maxRecDepth 100000 in
set_option maxHeartbeats 1000000 in
theorem Table_14 (w:World):Calls Try.prog 89 #[.int .i64 14] w fun e w'=>e=.returned (tbV 14)∧Below w.heap.size w w':=by
  rw [show tbV 14=.tuple #[.agg #[.string ⟨#[108,101]⟩,.int .i64 (2),.int .i64 (1),.int .i64 (0)],.bool true] from rfl]
  go_enter Try.func89,Try.ntmps89
  go_wp2
  try simp only [Exit.inBlock,Exit.then]
  refine bodyPost_ret (v:=.tuple #[.agg #[.string ⟨#[108,101]⟩,.int .i64 (2),.int .i64 (1),.int .i64 (0)],.bool true]) (by simp [results,Try.results89,go_sem]) rfl ⟨rfl,?_⟩
  first
    | exact (Below.refl _ _).alloc (Nat.le_refl _) _
    | exact ((Below.refl _ _).alloc (Nat.le_refl _) _).alloc (by simp) _
set_option maxRecDepth 100000 in
set_option maxHeartbeats 1000000 in
theorem Table_15 (w:World):Calls Try.prog 89 #[.int .i64 15] w fun e w'=>e=.returned (tbV 15)∧Below w.heap.size w w':=by
  rw [show tbV 15=.tuple #[.agg #[.string ⟨#[110,101,103]⟩,.int .i64 (1),.int .i64 (1),.int .i64 (0)],.bool true] from rfl]
  go_enter Try.func89,Try.ntmps89
  go_wp2
  try simp only [Exit.inBlock,Exit.then]
  refine bodyPost_ret (v:=.tuple #[.agg #[.string ⟨#[110,101,103]⟩,.int .i64 (1),.int .i64 (1),.int .i64 (0)],.bool true]) (by simp [results,Try.results89,go_sem]) rfl ⟨rfl,?_⟩
  first
    | exact (Below.refl _ _).alloc (Nat.le_refl _) _
    | exact ((Below.refl _ _).alloc (Nat.le_refl _) _).alloc (by simp) _
set_option maxRecDepth 100000 in
set_option maxHeartbeats 1000000 in
theorem Table_16 (w:World):Calls Try.prog 89 #[.int .i64 16] w fun e w'=>e=.returned (tbV 16)∧Below w.heap.size w w':=by
  rw [show tbV 16=.tuple #[.agg #[.string ⟨#[110,111,116]⟩,.int .i64 (1),.int .i64 (1),.int .i64 (0)],.bool true] from rfl]
  go_enter Try.func89,Try.ntmps89
  go_wp2
  try simp only [Exit.inBlock,Exit.then]
  refine bodyPost_ret (v:=.tuple #[.agg #[.string ⟨#[110,111,116]⟩,.int .i64 (1),.int .i64 (1),.int .i64 (0)],.bool true]) (by simp [results,Try.results89,go_sem]) rfl ⟨rfl,?_⟩
  first
    | exact (Below.refl _ _).alloc (Nat.le_refl _) _
    | exact ((Below.refl _ _).alloc (Nat.le_refl _) _).alloc (by simp) _
set_option maxRecDepth 100000 in
set_option maxHeartbeats 1000000 in
theorem Table_17 (w:World):Calls Try.prog 89 #[.int .i64 17] w fun e w'=>e=.returned (tbV 17)∧Below w.heap.size w w':=by
  rw [show tbV 17=.tuple #[.agg #[.string ⟨#[105,110,118]⟩,.int .i64 (1),.int .i64 (1),.int .i64 (0)],.bool true] from rfl]
  go_enter Try.func89,Try.ntmps89
  go_wp2
  try simp only [Exit.inBlock,Exit.then]
  refine bodyPost_ret (v:=.tuple #[.agg #[.string ⟨#[105,110,118]⟩,.int .i64 (1),.int .i64 (1),.int .i64 (0)],.bool true]) (by simp [results,Try.results89,go_sem]) rfl ⟨rfl,?_⟩
  first
    | exact (Below.refl _ _).alloc (Nat.le_refl _) _
    | exact ((Below.refl _ _).alloc (Nat.le_refl _) _).alloc (by simp) _
set_option maxRecDepth 100000 in
set_option maxHeartbeats 1000000 in
theorem Table_32 (w:World):Calls Try.prog 89 #[.int .i64 32] w fun e w'=>e=.returned (tbV 32)∧Below w.heap.size w w':=by
  rw [show tbV 32=.tuple #[.agg #[.string ⟨#[99,111,110,115,116]⟩,.int .i64 (0),.int .i64 (1),.int .i64 (1)],.bool true] from rfl]
  go_enter Try.func89,Try.ntmps89
  go_wp2
  try simp only [Exit.inBlock,Exit.then]
  refine bodyPost_ret (v:=.tuple #[.agg #[.string ⟨#[99,111,110,115,116]⟩,.int .i64 (0),.int .i64 (1),.int .i64 (1)],.bool true]) (by simp [results,Try.results89,go_sem]) rfl ⟨rfl,?_⟩
  first
    | exact (Below.refl _ _).alloc (Nat.le_refl _) _
    | exact ((Below.refl _ _).alloc (Nat.le_refl _) _).alloc (by simp) _
set_option maxRecDepth 100000 in
set_option maxHeartbeats 1000000 in
theorem Table_33 (w:World):Calls Try.prog 89 #[.int .i64 33] w fun e w'=>e=.returned (tbV 33)∧Below w.heap.size w w':=by
  rw [show tbV 33=.tuple #[.agg #[.string ⟨#[108,111,99,97,108]⟩,.int .i64 (0),.int .i64 (1),.int .i64 (2)],.bool true] from rfl]
  go_enter Try.func89,Try.ntmps89
  go_wp2
  try simp only [Exit.inBlock,Exit.then]
  refine bodyPost_ret (v:=.tuple #[.agg #[.string ⟨#[108,111,99,97,108]⟩,.int .i64 (0),.int .i64 (1),.int .i64 (2)],.bool true]) (by simp [results,Try.results89,go_sem]) rfl ⟨rfl,?_⟩
  first
    | exact (Below.refl _ _).alloc (Nat.le_refl _) _
    | exact ((Below.refl _ _).alloc (Nat.le_refl _) _).alloc (by simp) _
set_option maxRecDepth 100000 in
set_option maxHeartbeats 1000000 in
theorem Table_34 (w:World):Calls Try.prog 89 #[.int .i64 34] w fun e w'=>e=.returned (tbV 34)∧Below w.heap.size w w':=by
  rw [show tbV 34=.tuple #[.agg #[.string ⟨#[115,101,116]⟩,.int .i64 (1),.int .i64 (0),.int .i64 (2)],.bool true] from rfl]
  go_enter Try.func89,Try.ntmps89
  go_wp2
  try simp only [Exit.inBlock,Exit.then]
  refine bodyPost_ret (v:=.tuple #[.agg #[.string ⟨#[115,101,116]⟩,.int .i64 (1),.int .i64 (0),.int .i64 (2)],.bool true]) (by simp [results,Try.results89,go_sem]) rfl ⟨rfl,?_⟩
  first
    | exact (Below.refl _ _).alloc (Nat.le_refl _) _
    | exact ((Below.refl _ _).alloc (Nat.le_refl _) _).alloc (by simp) _
set_option maxRecDepth 100000 in
set_option maxHeartbeats 1000000 in
theorem Table_35 (w:World):Calls Try.prog 89 #[.int .i64 35] w fun e w'=>e=.returned (tbV 35)∧Below w.heap.size w w':=by
  rw [show tbV 35=.tuple #[.agg #[.string ⟨#[103,108,111,98,97,108]⟩,.int .i64 (0),.int .i64 (1),.int .i64 (3)],.bool true] from rfl]
  go_enter Try.func89,Try.ntmps89
  go_wp2
  try simp only [Exit.inBlock,Exit.then]
  refine bodyPost_ret (v:=.tuple #[.agg #[.string ⟨#[103,108,111,98,97,108]⟩,.int .i64 (0),.int .i64 (1),.int .i64 (3)],.bool true]) (by simp [results,Try.results89,go_sem]) rfl ⟨rfl,?_⟩
  first
    | exact (Below.refl _ _).alloc (Nat.le_refl _) _
    | exact ((Below.refl _ _).alloc (Nat.le_refl _) _).alloc (by simp) _
set_option maxRecDepth 100000 in
set_option maxHeartbeats 1000000 in
theorem Table_36 (w:World):Calls Try.prog 89 #[.int .i64 36] w fun e w'=>e=.returned (tbV 36)∧Below w.heap.size w w':=by
  rw [show tbV 36=.tuple #[.agg #[.string ⟨#[115,101,116,103,108,111,98,97,108]⟩,.int .i64 (1),.int .i64 (0),.int .i64 (3)],.bool true] from rfl]
  go_enter Try.func89,Try.ntmps89
  go_wp2
  try simp only [Exit.inBlock,Exit.then]
  refine bodyPost_ret (v:=.tuple #[.agg #[.string ⟨#[115,101,116,103,108,111,98,97,108]⟩,.int .i64 (1),.int .i64 (0),.int .i64 (3)],.bool true]) (by simp [results,Try.results89,go_sem]) rfl ⟨rfl,?_⟩
  first
    | exact (Below.refl _ _).alloc (Nat.le_refl _) _
    | exact ((Below.refl _ _).alloc (Nat.le_refl _) _).alloc (by simp) _
set_option maxRecDepth 100000 in
set_option maxHeartbeats 1000000 in
theorem Table_37 (w:World):Calls Try.prog 89 #[.int .i64 37] w fun e w'=>e=.returned (tbV 37)∧Below w.heap.size w w':=by
  rw [show tbV 37=.tuple #[.agg #[.string ⟨#[108,111,97,100]⟩,.int .i64 (1),.int .i64 (1),.int .i64 (4)],.bool true] from rfl]
  go_enter Try.func89,Try.ntmps89
  go_wp2
  try simp only [Exit.inBlock,Exit.then]
  refine bodyPost_ret (v:=.tuple #[.agg #[.string ⟨#[108,111,97,100]⟩,.int .i64 (1),.int .i64 (1),.int .i64 (4)],.bool true]) (by simp [results,Try.results89,go_sem]) rfl ⟨rfl,?_⟩
  first
    | exact (Below.refl _ _).alloc (Nat.le_refl _) _
    | exact ((Below.refl _ _).alloc (Nat.le_refl _) _).alloc (by simp) _
set_option maxRecDepth 100000 in
set_option maxHeartbeats 1000000 in
theorem Table_38 (w:World):Calls Try.prog 89 #[.int .i64 38] w fun e w'=>e=.returned (tbV 38)∧Below w.heap.size w w':=by
  rw [show tbV 38=.tuple #[.agg #[.string ⟨#[115,116,111,114,101]⟩,.int .i64 (2),.int .i64 (0),.int .i64 (4)],.bool true] from rfl]
  go_enter Try.func89,Try.ntmps89
  go_wp2
  try simp only [Exit.inBlock,Exit.then]
  refine bodyPost_ret (v:=.tuple #[.agg #[.string ⟨#[115,116,111,114,101]⟩,.int .i64 (2),.int .i64 (0),.int .i64 (4)],.bool true]) (by simp [results,Try.results89,go_sem]) rfl ⟨rfl,?_⟩
  first
    | exact (Below.refl _ _).alloc (Nat.le_refl _) _
    | exact ((Below.refl _ _).alloc (Nat.le_refl _) _).alloc (by simp) _
set_option maxRecDepth 100000 in
set_option maxHeartbeats 1000000 in
theorem Table_39 (w:World):Calls Try.prog 89 #[.int .i64 39] w fun e w'=>e=.returned (tbV 39)∧Below w.heap.size w w':=by
  rw [show tbV 39=.tuple #[.agg #[.string ⟨#[100,117,112]⟩,.int .i64 (1),.int .i64 (2),.int .i64 (0)],.bool true] from rfl]
  go_enter Try.func89,Try.ntmps89
  go_wp2
  try simp only [Exit.inBlock,Exit.then]
  refine bodyPost_ret (v:=.tuple #[.agg #[.string ⟨#[100,117,112]⟩,.int .i64 (1),.int .i64 (2),.int .i64 (0)],.bool true]) (by simp [results,Try.results89,go_sem]) rfl ⟨rfl,?_⟩
  first
    | exact (Below.refl _ _).alloc (Nat.le_refl _) _
    | exact ((Below.refl _ _).alloc (Nat.le_refl _) _).alloc (by simp) _
set_option maxRecDepth 100000 in
set_option maxHeartbeats 1000000 in
theorem Table_40 (w:World):Calls Try.prog 89 #[.int .i64 40] w fun e w'=>e=.returned (tbV 40)∧Below w.heap.size w w':=by
  rw [show tbV 40=.tuple #[.agg #[.string ⟨#[115,119,97,112]⟩,.int .i64 (2),.int .i64 (2),.int .i64 (0)],.bool true] from rfl]
  go_enter Try.func89,Try.ntmps89
  go_wp2
  try simp only [Exit.inBlock,Exit.then]
  refine bodyPost_ret (v:=.tuple #[.agg #[.string ⟨#[115,119,97,112]⟩,.int .i64 (2),.int .i64 (2),.int .i64 (0)],.bool true]) (by simp [results,Try.results89,go_sem]) rfl ⟨rfl,?_⟩
  first
    | exact (Below.refl _ _).alloc (Nat.le_refl _) _
    | exact ((Below.refl _ _).alloc (Nat.le_refl _) _).alloc (by simp) _
set_option maxRecDepth 100000 in
set_option maxHeartbeats 1000000 in
theorem Table_41 (w:World):Calls Try.prog 89 #[.int .i64 41] w fun e w'=>e=.returned (tbV 41)∧Below w.heap.size w w':=by
  rw [show tbV 41=.tuple #[.agg #[.string ⟨#[112,111,112]⟩,.int .i64 (1),.int .i64 (0),.int .i64 (0)],.bool true] from rfl]
  go_enter Try.func89,Try.ntmps89
  go_wp2
  try simp only [Exit.inBlock,Exit.then]
  refine bodyPost_ret (v:=.tuple #[.agg #[.string ⟨#[112,111,112]⟩,.int .i64 (1),.int .i64 (0),.int .i64 (0)],.bool true]) (by simp [results,Try.results89,go_sem]) rfl ⟨rfl,?_⟩
  first
    | exact (Below.refl _ _).alloc (Nat.le_refl _) _
    | exact ((Below.refl _ _).alloc (Nat.le_refl _) _).alloc (by simp) _
set_option maxRecDepth 100000 in
set_option maxHeartbeats 1000000 in
theorem Table_42 (w:World):Calls Try.prog 89 #[.int .i64 42] w fun e w'=>e=.returned (tbV 42)∧Below w.heap.size w w':=by
  rw [show tbV 42=.tuple #[.agg #[.string ⟨#[110,111,112]⟩,.int .i64 (0),.int .i64 (0),.int .i64 (0)],.bool true] from rfl]
  go_enter Try.func89,Try.ntmps89
  go_wp2
  try simp only [Exit.inBlock,Exit.then]
  refine bodyPost_ret (v:=.tuple #[.agg #[.string ⟨#[110,111,112]⟩,.int .i64 (0),.int .i64 (0),.int .i64 (0)],.bool true]) (by simp [results,Try.results89,go_sem]) rfl ⟨rfl,?_⟩
  first
    | exact (Below.refl _ _).alloc (Nat.le_refl _) _
    | exact ((Below.refl _ _).alloc (Nat.le_refl _) _).alloc (by simp) _
set_option maxRecDepth 100000 in
set_option maxHeartbeats 1000000 in
theorem Table_43 (w:World):Calls Try.prog 89 #[.int .i64 43] w fun e w'=>e=.returned (tbV 43)∧Below w.heap.size w w':=by
  rw [show tbV 43=.tuple #[.agg #[.string ⟨#[106,117,109,112]⟩,.int .i64 (0),.int .i64 (0),.int .i64 (5)],.bool true] from rfl]
  go_enter Try.func89,Try.ntmps89
  go_wp2
  try simp only [Exit.inBlock,Exit.then]
  refine bodyPost_ret (v:=.tuple #[.agg #[.string ⟨#[106,117,109,112]⟩,.int .i64 (0),.int .i64 (0),.int .i64 (5)],.bool true]) (by simp [results,Try.results89,go_sem]) rfl ⟨rfl,?_⟩
  first
    | exact (Below.refl _ _).alloc (Nat.le_refl _) _
    | exact ((Below.refl _ _).alloc (Nat.le_refl _) _).alloc (by simp) _
set_option maxRecDepth 100000 in
set_option maxHeartbeats 1000000 in
theorem Table_44 (w:World):Calls Try.prog 89 #[.int .i64 44] w fun e w'=>e=.returned (tbV 44)∧Below w.heap.size w w':=by
  rw [show tbV 44=.tuple #[.agg #[.string ⟨#[122,101,114,111]⟩,.int .i64 (1),.int .i64 (0),.int .i64 (5)],.bool true] from rfl]
  go_enter Try.func89,Try.ntmps89
  go_wp2
  try simp only [Exit.inBlock,Exit.then]
  refine bodyPost_ret (v:=.tuple #[.agg #[.string ⟨#[122,101,114,111]⟩,.int .i64 (1),.int .i64 (0),.int .i64 (5)],.bool true]) (by simp [results,Try.results89,go_sem]) rfl ⟨rfl,?_⟩
  first
    | exact (Below.refl _ _).alloc (Nat.le_refl _) _
    | exact ((Below.refl _ _).alloc (Nat.le_refl _) _).alloc (by simp) _
set_option maxRecDepth 100000 in
set_option maxHeartbeats 1000000 in
theorem Table_45 (w:World):Calls Try.prog 89 #[.int .i64 45] w fun e w'=>e=.returned (tbV 45)∧Below w.heap.size w w':=by
  rw [show tbV 45=.tuple #[.agg #[.string ⟨#[99,97,108,108]⟩,.int .i64 (-1),.int .i64 (-1),.int .i64 (6)],.bool true] from rfl]
  go_enter Try.func89,Try.ntmps89
  go_wp2
  try simp only [Exit.inBlock,Exit.then]
  refine bodyPost_ret (v:=.tuple #[.agg #[.string ⟨#[99,97,108,108]⟩,.int .i64 (-1),.int .i64 (-1),.int .i64 (6)],.bool true]) (by simp [results,Try.results89,go_sem]) rfl ⟨rfl,?_⟩
  first
    | exact (Below.refl _ _).alloc (Nat.le_refl _) _
    | exact ((Below.refl _ _).alloc (Nat.le_refl _) _).alloc (by simp) _
set_option maxRecDepth 100000 in
set_option maxHeartbeats 1000000 in
theorem Table_46 (w:World):Calls Try.prog 89 #[.int .i64 46] w fun e w'=>e=.returned (tbV 46)∧Below w.heap.size w w':=by
  rw [show tbV 46=.tuple #[.agg #[.string ⟨#[114,101,116,117,114,110]⟩,.int .i64 (-1),.int .i64 (0),.int .i64 (0)],.bool true] from rfl]
  go_enter Try.func89,Try.ntmps89
  go_wp2
  try simp only [Exit.inBlock,Exit.then]
  refine bodyPost_ret (v:=.tuple #[.agg #[.string ⟨#[114,101,116,117,114,110]⟩,.int .i64 (-1),.int .i64 (0),.int .i64 (0)],.bool true]) (by simp [results,Try.results89,go_sem]) rfl ⟨rfl,?_⟩
  first
    | exact (Below.refl _ _).alloc (Nat.le_refl _) _
    | exact ((Below.refl _ _).alloc (Nat.le_refl _) _).alloc (by simp) _
set_option maxRecDepth 100000 in
set_option maxHeartbeats 1000000 in
theorem Table_47 (w:World):Calls Try.prog 89 #[.int .i64 47] w fun e w'=>e=.returned (tbV 47)∧Below w.heap.size w w':=by
  rw [show tbV 47=.tuple #[.agg #[.string ⟨#[115,101,110,100]⟩,.int .i64 (1),.int .i64 (0),.int .i64 (7)],.bool true] from rfl]
  go_enter Try.func89,Try.ntmps89
  go_wp2
  try simp only [Exit.inBlock,Exit.then]
  refine bodyPost_ret (v:=.tuple #[.agg #[.string ⟨#[115,101,110,100]⟩,.int .i64 (1),.int .i64 (0),.int .i64 (7)],.bool true]) (by simp [results,Try.results89,go_sem]) rfl ⟨rfl,?_⟩
  first
    | exact (Below.refl _ _).alloc (Nat.le_refl _) _
    | exact ((Below.refl _ _).alloc (Nat.le_refl _) _).alloc (by simp) _
set_option maxRecDepth 100000 in
set_option maxHeartbeats 1000000 in
theorem Table_none {op:Int} (hk:knI op=false) (w:World):Calls Try.prog 89 #[.int .i64 op] w fun e w'=>e=.returned (tbV op)∧Below w.heap.size w w':=by
  obtain ⟨h1,h2,h3,h4⟩:=out_default hk
  unfold tbV rwV
  rw [h1,h2,h3,h4,hk]
  clear h1 h2 h3 h4
  obtain ⟨n1,n2,n3,n4,n5,n6,n7,n8,n9,n10,n11,n12,n13,n14,n15,n16,n17,n32,n33,n34,n35,n36,n37,n38,n39,n40,n41,n42,n43,n44,n45,n46,n47⟩:=knI_not hk
  by_cases h1:1≤op
  · have h2:¬ op≤17:=by omega
    clear hk n1 n2 n3 n4 n5 n6 n7 n8 n9 n10 n11 n12 n13 n14 n15 n16 n17
    go_enter Try.func89,Try.ntmps89
    go_wp2
    try simp only [Exit.inBlock,Exit.then]
    refine bodyPost_ret (v:=.tuple #[.agg #[.string ⟨#[]⟩,.int .i64 0,.int .i64 0,.int .i64 0],.bool false]) (by simp [results,Try.results89,go_sem]) rfl ⟨rfl,?_⟩
    exact (Below.refl _ _).alloc (Nat.le_refl _) _
  · clear hk n1 n2 n3 n4 n5 n6 n7 n8 n9 n10 n11 n12 n13 n14 n15 n16 n17
    go_enter Try.func89,Try.ntmps89
    go_wp2
    try simp only [Exit.inBlock,Exit.then]
    refine bodyPost_ret (v:=.tuple #[.agg #[.string ⟨#[]⟩,.int .i64 0,.int .i64 0,.int .i64 0],.bool false]) (by simp [results,Try.results89,go_sem]) rfl ⟨rfl,?_⟩
    exact (Below.refl _ _).alloc (Nat.le_refl _) _
theorem Table_any (op:Int) (w:World):Calls Try.prog 89 #[.int .i64 op] w fun e w'=>e=.returned (tbV op)∧Below w.heap.size w w':=by
  by_cases hk:knI op=true
  · rcases knI_cases hk with rfl | rfl | rfl | rfl | rfl | rfl | rfl | rfl | rfl | rfl | rfl | rfl | rfl | rfl | rfl | rfl | rfl | rfl | rfl | rfl | rfl | rfl | rfl | rfl | rfl | rfl | rfl | rfl | rfl | rfl | rfl | rfl | rfl
    · exact Table_1 w
    · exact Table_2 w
    · exact Table_3 w
    · exact Table_4 w
    · exact Table_5 w
    · exact Table_6 w
    · exact Table_7 w
    · exact Table_8 w
    · exact Table_9 w
    · exact Table_10 w
    · exact Table_11 w
    · exact Table_12 w
    · exact Table_13 w
    · exact Table_14 w
    · exact Table_15 w
    · exact Table_16 w
    · exact Table_17 w
    · exact Table_32 w
    · exact Table_33 w
    · exact Table_34 w
    · exact Table_35 w
    · exact Table_36 w
    · exact Table_37 w
    · exact Table_38 w
    · exact Table_39 w
    · exact Table_40 w
    · exact Table_41 w
    · exact Table_42 w
    · exact Table_43 w
    · exact Table_44 w
    · exact Table_45 w
    · exact Table_46 w
    · exact Table_47 w
  · exact Table_none (by simpa using hk) w
end Go.Proofs.Ytbfkgcapkffecaa
namespace Go.Proofs.Ytbfkgcapkffecaa
open Go Go.RowKit
set_option maxRecDepth 100000 in
set_option maxHeartbeats 1000000 in
theorem refMay_any (op a:Int) (w:World):Calls Try.prog 64 #[inV op a] w fun e w'=>e=.returned (.bool (mayI op a))∧Below w.heap.size w w':=by
  have hT:=Lib.hid (Table_any op)
  unfold tbV rwV at hT
  unfold mayI
  generalize nmI op=s at hT
  generalize poI op=p at hT
  generalize puI op=q at hT
  generalize kiI op=k at hT ⊢
  cases hk:knI op
  · rw [hk] at hT
    clear hk
    go_enter Try.func64,Try.ntmps64
    go_wp2_with fail
    refine (hT.out _).mono ?_
    rintro e w1 ⟨rfl,hb⟩
    go_wp2
    all_goals
      go_ret
      exact ⟨rfl,(((Below.refl _ w).alloc (Nat.le_refl _) _).trans (hb.mono (by simp))).alloc (by have:=hb.size;simp at this;omega) _⟩
  · rw [hk] at hT
    clear hk
    by_cases h0:k=0
    · subst h0
      go_enter Try.func64,Try.ntmps64
      go_wp2_with fail
      refine (hT.out _).mono ?_
      rintro e w1 ⟨rfl,hb⟩
      have hc:w1.cell? ⟨w.heap.size,1,none⟩=some (.int .i64 a):=(hb.cell (p:=⟨w.heap.size,1,none⟩) (by simp)).trans (by rw [World.cell?_alloc_new];rfl)
      have hlt:w.heap.size<w1.heap.size:=by have:=hb.size;simp at this;omega
      by_cases ha:a=0
      all_goals
        go_wp2
        all_goals
          go_ret
          exact ⟨by simp [ha],(((Below.refl _ w).alloc (Nat.le_refl _) _).trans (hb.mono (by simp))).alloc (by have:=hb.size;simp at this;omega) _⟩
    · by_cases h1:k=1
      all_goals
        go_enter Try.func64,Try.ntmps64
        go_wp2_with fail
        refine (hT.out _).mono ?_
        rintro e w1 ⟨rfl,hb⟩
        have hc:w1.cell? ⟨w.heap.size,1,none⟩=some (.int .i64 a):=(hb.cell (p:=⟨w.heap.size,1,none⟩) (by simp)).trans (by rw [World.cell?_alloc_new];rfl)
        have hlt:w.heap.size<w1.heap.size:=by have:=hb.size;simp at this;omega
        by_cases ha:0≤a
        all_goals
          go_wp2
          all_goals
            go_ret
            exact ⟨by simp [h0,h1,ha],(((Below.refl _ w).alloc (Nat.le_refl _) _).trans (hb.mono (by simp))).alloc (by have:=hb.size;simp at this;omega) _⟩
theorem knI_nat {r:Int} (h:knI r=true):∃ k:Nat,k<48∧r=k:=by
  unfold knI at h
  rw [decide_eq_true_iff] at h
  exact ⟨r.toNat,by omega,by omega⟩
end Go.Proofs.Ytbfkgcapkffecaa
namespace Go.Proofs.Mm
open Go Go.RowKit
structure Chg (S:Nat→Prop) (w w':World):Prop where
  os:w'.os=w.os
  tape:w'.tape=w.tape
  output:w'.output=w.output
  size:w.heap.size≤w'.heap.size
  block:∀ k,k<w.heap.size→¬ S k→w'.heap[k]?=w.heap[k]?
theorem Chg.refl (S:Nat→Prop) (w:World):Chg S w w:=⟨rfl,rfl,rfl,Nat.le_refl _,fun _ _ _=>rfl⟩
theorem Chg.trans {S S':Nat→Prop} {a b c:World} (h:Chg S a b) (k:Chg S' b c) (hs:∀ i,S' i→S i ∨ a.heap.size≤i):Chg S a c :=
  ⟨k.os.trans h.os,k.tape.trans h.tape,k.output.trans h.output,Nat.le_trans h.size k.size,fun i hi hn =>
    (k.block i (Nat.lt_of_lt_of_le hi h.size) (fun e=>by rcases hs i e with q | q <;> first | exact hn q | exact absurd hi (by omega))).trans (h.block i hi hn)⟩
theorem Chg.then {S:Nat→Prop} {a b c:World} (h:Chg S a b) (k:Chg S b c):Chg S a c:=h.trans k fun _ q=>.inl q
theorem Chg.mono {S S':Nat→Prop} {a b:World} (h:Chg S a b) (hs:∀ i,S i→S' i ∨ a.heap.size≤i):Chg S' a b :=
  ⟨h.os,h.tape,h.output,h.size,fun i hi hn=>h.block i hi (fun e=>by rcases hs i e with q | q <;> first | exact hn q | exact absurd hi (by omega))⟩
theorem Chg.drew {S:Nat→Prop} {a w:World} (h:Chg S a w):Chg S a w.drew:=⟨h.os,h.tape,h.output,h.size,h.block⟩
theorem Chg.drewN {S:Nat→Prop} {a w:World} (h:Chg S a w) (n:Nat):Chg S a (w.drewN n):=⟨h.os,h.tape,h.output,h.size,h.block⟩
theorem Chg.alloc {S:Nat→Prop} {a w:World} (h:Chg S a w) (o:Obj):Chg S a (w.alloc o) :=
  h.then ⟨rfl,rfl,rfl,by simp,fun k hk _=>Below.heap_alloc _ _ _ hk⟩
theorem Chg.setCell {S:Nat→Prop} {a w:World} (h:Chg S a w) {p:Addr} (hp:S p.block ∨ a.heap.size≤p.block) (u:Value):Chg S a (w.setCell p u) :=
  h.trans (S':=fun i=>i=p.block) ⟨rfl,rfl,rfl,by simp [World.setCell],fun k _ hk=>Below.heap_setCell _ _ _ _ hk⟩ (fun i e=>by subst e;exact hp)
theorem Chg.below {S:Nat→Prop} {a w:World} (h:Chg S a w) {B:Nat} (hB:B≤a.heap.size) (hS:∀ i,S i→B≤i):Below B a w :=
  ⟨h.os,h.tape,h.output,h.size,fun k hk=>h.block k (by omega) (fun e=>by have:=hS k e;omega)⟩
theorem Below.chg {B:Nat} {a w:World} (h:Below B a w) (hB:a.heap.size≤B) (S:Nat→Prop):Chg S a w :=
  ⟨h.os,h.tape,h.output,h.size,fun k hk _=>h.block k (by omega)⟩
theorem grown_chg {a w:World} {row:Option Nat} (h:a.grownBy w row) {S:Nat→Prop} (hr:∀ k,row=some k→S k ∨ a.heap.size≤k):Chg S a w :=
  ⟨h.os,h.tape,h.output,h.size,fun k hk hn=>h.block k hk (fun e=>by rcases hr k e.symm with q | q <;> first | exact hn q | exact absurd hk (by omega))⟩
theorem Chg.cell {S:Nat→Prop} {a w:World} (h:Chg S a w) {p:Addr} {v:Value} (hc:a.cell? p=some v) (hn:¬ S p.block):w.cell? p=some v :=
  (World.cell?_of_block (h.block _ (World.block_lt_of_cell? _ _ hc) hn)).trans hc
theorem heap_lt {w:World} {b:Nat} {o:Obj} (h:w.heap[b]?=some o):b<w.heap.size:=(Array.getElem?_eq_some_iff.1 h).1
theorem Chg.heap {S:Nat→Prop} {a w:World} (h:Chg S a w) {k:Nat} {o:Obj} (hc:a.heap[k]?=some o) (hn:¬ S k):w.heap[k]?=some o :=
  (h.block k (heap_lt hc) hn).trans hc
abbrev Mem:=Nat→Option Obj
def Has (w:World) (m:Mem):Prop:=∀ k o,m k=some o→w.heap[k]?=some o
def Mem.le (m m':Mem):Prop:=∀ k o,m k=some o→m' k=some o
structure Mem.More (w:World) (m m':Mem):Prop where
  le:m.le m'
  new:∀ k,m k=none→k<w.heap.size→m' k=none
theorem Mem.le.refl (m:Mem):m.le m:=fun _ _ h=>h
theorem Mem.le.trans {a b c:Mem} (h:a.le b) (k:b.le c):a.le c:=fun i o e=>k i o (h i o e)
theorem Mem.More.refl (w:World) (m:Mem):m.More w m:=⟨Mem.le.refl m,fun _ h _=>h⟩
theorem Mem.More.trans {w w':World} {a b c:Mem} (h:a.More w b) (k:b.More w' c) (hw:w.heap.size≤w'.heap.size):a.More w c :=
  ⟨h.le.trans k.le,fun i e hi=>k.new i (h.new i e hi) (by omega)⟩
theorem Mem.More.from {w w':World} {a b:Mem} (h:a.More w' b) (hw:w.heap.size≤w'.heap.size):a.More w b:=⟨h.le,fun i e hi=>h.new i e (by omega)⟩
theorem Has.chg {S:Nat→Prop} {w w':World} {m:Mem} (h:Has w m) (hc:Chg S w w') (hs:∀ k,S k→m k=none):Has w' m:=fun k o e =>
  hc.heap (h k o e) (fun q=>by rw [hs k q] at e;cases e)
theorem Has.lt {w:World} {m:Mem} (h:Has w m) {k:Nat} (hk:w.heap.size≤k):m k=none:=by
  cases e:m k with
  | none=>rfl
  | some o=>have:=heap_lt (h k o e);omega
def Mem.put (m:Mem) (g:Nat) (o:Obj):Mem:=fun k=>if k=g then some o else m k
theorem Mem.put_le {m:Mem} {g:Nat} {o:Obj} (h:m g=none):m.le (m.put g o):=fun k o' e=>by
  unfold Mem.put
  split
  · rename_i e';subst e';rw [h] at e;cases e
  · exact e
theorem Mem.put_same (m:Mem) (g:Nat) (o:Obj):m.put g o g=some o:=by unfold Mem.put;rw [if_pos rfl]
theorem Mem.put_other {m:Mem} {g k:Nat} {o:Obj} (h:k ≠ g):m.put g o k=m k:=by unfold Mem.put;rw [if_neg h]
theorem Has.put {w:World} {m:Mem} {g:Nat} {o:Obj} (h:Has w m) (hg:w.heap[g]?=some o):Has w (m.put g o):=fun k o' e=>by
  unfold Mem.put at e
  split at e
  · rename_i e';subst e';injection e with e;subst e;exact hg
  · exact h k o' e
theorem Mem.More.put {w:World} {m:Mem} {g:Nat} {o:Obj} (h:m g=none) (hg:w.heap.size≤g):m.More w (m.put g o) :=
  ⟨Mem.put_le h,fun k e hk=>by rw [Mem.put_other (by omega)];exact e⟩
def RowM (m:Mem) (E:TypeId) (size:Nat) (v:Value) (n:Nat) (xs:List Value):Prop :=
  xs.length=n * size ∧
  ((v=.slice none 0 0∧n=0) ∨
   ∃ g cap cur,v=.slice (some ⟨g,0,none⟩) n cap∧m g=some (.cells cur E (0,0))∧n≤cap∧cap≤maxLen∧cur.size=cap * size∧cur.toList.take (n * size)=xs)
theorem RowM.le {m m':Mem} {E:TypeId} {size n:Nat} {v:Value} {xs:List Value} (h:RowM m E size v n xs) (hm:m.le m'):RowM m' E size v n xs:=by
  obtain ⟨h1,h2 | ⟨g,cap,cur,h2,h3,h4⟩⟩:=h
  · exact ⟨h1,.inl h2⟩
  · exact ⟨h1,.inr ⟨g,cap,cur,h2,hm _ _ h3,h4⟩⟩
theorem RowM.nil (m:Mem) (E:TypeId) (size:Nat):RowM m E size (.slice none 0 0) 0 []:=⟨by simp,.inl ⟨rfl,rfl⟩⟩
theorem RowM.done {w:World} {m:Mem} {B:Nat} {E:TypeId} {size n:Nat} {v:Value} {xs:List Value} (h:w.ownsRow B E size v n xs) (hm:Has w m) (hv:∀ k,v.ownBlock=some k→m k=none) :
    ∃ m',m.le m'∧(∀ k,m' k ≠ none→m k ≠ none ∨ v.ownBlock=some k)∧Has w m'∧RowM m' E size v n xs:=by
  obtain ⟨h1,⟨rfl,rfl⟩ | ⟨g,cap,cur,rfl,hb,hg,h4⟩⟩:=h
  · exact ⟨m,Mem.le.refl m,fun k h=>.inl h,hm,h1,.inl ⟨rfl,rfl⟩⟩
  · refine ⟨m.put g _,Mem.put_le (hv g rfl),fun k hk=>?_,hm.put hg,h1,.inr ⟨g,cap,cur,rfl,Mem.put_same _ _ _,h4⟩⟩
    by_cases e:k=g
    · subst e;exact .inr rfl
    · rw [Mem.put_other e] at hk;exact .inl hk
theorem RowM.cells {w:World} {m:Mem} {E:TypeId} {size n:Nat} {v:Value} {xs:List Value} (h:RowM m E size v n xs) (hm:Has w m) :
    ∀ j u,xs[j]?=some u→∃ g c,v=.slice (some ⟨g,0,none⟩) n c∧w.cell? ⟨g,j,none⟩=some u∧g<w.heap.size:=by
  intro j u hu
  obtain ⟨h1,⟨rfl,rfl⟩ | ⟨g,cap,cur,rfl,hg,h4,h5,h6,h7⟩⟩:=h
  · have:xs=[]:=List.eq_nil_of_length_eq_zero (by simpa using h1)
    subst this;simp at hu
  · refine ⟨g,cap,rfl,?_,heap_lt (hm _ _ hg)⟩
    rw [cell_of_row w g j cur E (0,0) (hm _ _ hg)]
    rw [← h7,List.getElem?_take] at hu
    split at hu
    · simpa using hu
    · cases hu
end Go.Proofs.Mm
namespace Go.Proofs.Ytbfkgcapkffecaa
open Go Go.RowKit Go.Proofs.Mm
theorem cell_of {w:World} {b j:Nat} {arr:Array Value} {T:TypeId} {v:Value} (h:w.heap[b]?=some (.cells arr T (0,0))) (hv:arr[j]?=some v):w.cell? ⟨b,j,none⟩=some v:=by
  rw [cell_of_row w b j arr T (0,0) h];exact hv
theorem free_of {w:World} {b j:Nat} {arr:Array Value} {T:TypeId} (h:w.heap[b]?=some (.cells arr T (0,0))):w.frozen? ⟨b,j,none⟩=false:=by
  simp [World.frozen?,h]
theorem heap_new (w:World) (o:Obj) {k:Nat} {x:Obj} (h:w.heap[k]?=some x):(w.alloc o).heap[k]?=some x:=by
  rw [Below.heap_alloc _ _ _ (heap_lt h)];exact h
theorem heap_set {w:World} {b:Nat} {arr:Array Value} {T:TypeId} (h:w.heap[b]?=some (.cells arr T (0,0))) (j:Nat) (v:Value):(w.setCell ⟨b,j,none⟩ v).heap[b]?=some (.cells (arr.setIfInBounds j v) T (0,0)):=by
  simp only [World.setCell,Array.getElem?_modify,h,Option.map_some,if_true]
  rfl
theorem heap_other {w:World} {b j k:Nat} {v:Value} {x:Obj} (h:w.heap[k]?=some x) (hn:k ≠ b):(w.setCell ⟨b,j,none⟩ v).heap[k]?=some x:=by
  rw [Below.heap_setCell _ _ _ _ hn];exact h
theorem row_new (W:World) (L:List Value) (T:TypeId):∀ (j:Nat) (u:Value),L[j]?=some u→(W.alloc (.cells L.toArray T)).cell? ((⟨W.heap.size,0,none⟩:Addr).add j)=some u:=by
  intro j u h
  rw [show ((⟨W.heap.size,0,none⟩:Addr).add j)=⟨W.heap.size,j,none⟩ from by unfold Addr.add;split <;> simp_all,World.cell?_alloc_new]
  simpa using h
theorem grown_below {B:Nat} {a w w':World} {row:Option Nat} (h:Below B a w) (hB:B≤w.heap.size) (hg:w.grownBy w' row) (hr:∀ k,row=some k→B≤k):Below B a w' :=
  h.trans ⟨hg.os,hg.tape,hg.output,hg.size,fun k hk=>hg.block k (Nat.lt_of_lt_of_le hk hB) (fun e=>absurd (hr k e.symm) (by omega))⟩
theorem own_type {w:World} {B n size:Nat} {E:TypeId} {v:Value} {xs:List Value} (h:w.ownsRow B E size v n xs) {k:Nat} (hk:v.ownBlock=some k):∃ cur,w.heap[k]?=some (.cells cur E (0,0)):=by
  rcases h.2 with ⟨rfl,_⟩ | ⟨g,cap,cur,rfl,_,hg,_⟩
  · cases hk
  · obtain rfl:g=k:=by simpa [Value.ownBlock] using hk
    exact ⟨cur,hg⟩
theorem own_chg {w w':World} {B n size:Nat} {E:TypeId} {v:Value} {xs:List Value} (h:w.ownsRow B E size v n xs) {S:Nat→Prop} (hc:Chg S w w') (hn:∀ k,v.ownBlock=some k→¬ S k):w'.ownsRow B E size v n xs:=by
  refine ⟨h.1,?_⟩
  rcases h.2 with h0 | ⟨g,cap,cur,rfl,hb,hg,rest⟩
  · exact .inl h0
  · exact .inr ⟨g,cap,cur,rfl,hb,hc.heap hg (hn g rfl),rest⟩
theorem own_shape {w:World} {B n size:Nat} {E:TypeId} {v:Value} {xs:List Value} (h:w.ownsRow B E size v n xs):∃ q c,v=.slice q n c:=by
  rcases h.2 with ⟨rfl,rfl⟩ | ⟨g,cap,cur,rfl,_⟩
  · exact ⟨_,_,rfl⟩
  · exact ⟨_,_,rfl⟩
def Enc {α:Type} (R:List Value→α→Prop):List Value→List α→Prop
  | cs,[]=>cs=[]
  | cs,x :: xs=>∃ c r,cs=c++r∧R c x∧Enc R r xs
theorem Enc.app {α:Type} {R:List Value→α→Prop}:∀ {xs ys:List α} {cs ds:List Value},Enc R cs xs→Enc R ds ys→Enc R (cs++ds) (xs++ys)
  | [],ys,cs,ds,h,h'=>by
    obtain rfl:cs=[]:=h
    exact h'
  | x :: xs,ys,cs,ds,h,h'=>by
    obtain ⟨c,r,rfl,h1,h2⟩:=h
    exact ⟨c,r++ds,by rw [List.append_assoc],h1,h2.app h'⟩
theorem Enc.one {α:Type} {R:List Value→α→Prop} {c:List Value} {x:α} (h:R c x):Enc R c [x]:=⟨c,[],by simp,h,rfl⟩
theorem Enc.nil {α:Type} {R:List Value→α→Prop}:Enc R [] ([]:List α):=rfl
theorem Enc.mono {α:Type} {R R':List Value→α→Prop} (hR:∀ c x,R c x→R' c x):∀ {xs:List α} {cs:List Value},Enc R cs xs→Enc R' cs xs
  | [],_,h=>h
  | _ :: _,_,⟨c,r,e,h1,h2⟩=>⟨c,r,e,hR _ _ h1,h2.mono hR⟩
end Go.Proofs.Ytbfkgcapkffecaa
