/- Operands and instructions: package shape's and the document's. Operands: package shape's. Instr: package shape's and the document's. ShapeInstrs: the law's walk. -/
import Derived.Test.YthjkbfamkogoiaaShChecksPR3
namespace Go.Proofs.Ythjkbfamkogoiaa
open Go Go.RowKit Go.Proofs.Mm Go.Sort
def rooI (ng na nh:Nat) (fs:List FnM) (f op:Int):Int :=
  if 1≤op∧op≤17 then 1 else if op=32 then -1 else if op=33 ∨ op=34 then locI fs f else if op=35 ∨ op=36 then ng else if op=37 ∨ op=38 then na
  else if op=39 ∨ op=40 ∨ op=41 ∨ op=42 ∨ op=46 then 1 else if op=43 ∨ op=44 then (fs.getD f.toNat default).code.length else if op=45 then fs.length else if op=47 then nh else -2
theorem eqb {a b:Int} (h:a ≠ b):(a == b)=false:=by simpa using h
section
variable (qg:Option Addr) (ng cg:Nat) (qa:Option Addr) (na ca:Nat) (qh:Option Addr) (nh ch:Nat) (qf:Option Addr) (nf cf:Nat)
set_option maxRecDepth 100000 in
set_option maxHeartbeats 1000000 in
theorem room_32 {lt:Bool} {fs:List FnM} (hn:fs.length=nf) {w:World} (hF:FnAt lt (wC w) qf fs) (j:Nat) (hj:j<nf) :Calls Try.prog 26 #[moV qg ng cg qa na ca qh nh ch qf nf cf,.int .i64 j,.int .i64 32] w fun e w'=>e=.returned (.int .i64 (-1))∧Below w.heap.size w w':=by
  clear hF hn
  go_enter Try.func26,Try.ntmps26
  go_wp2_with fail
  go_ret
  exact ⟨rfl,bl_al (Below.refl _ w) _⟩
set_option maxRecDepth 100000 in
set_option maxHeartbeats 1000000 in
theorem room_33 {lt:Bool} {fs:List FnM} (hn:fs.length=nf) {w:World} (hF:FnAt lt (wC w) qf fs) (j:Nat) (hj:j<nf) :Calls Try.prog 26 #[moV qg ng cg qa na ca qh nh ch qf nf cf,.int .i64 j,.int .i64 33] w fun e w'=>e=.returned (.int .i64 (locI fs j))∧Below w.heap.size w w':=by
  have HF:=Lib.hid (fun w' (hb:Below w.heap.size w w')=>(hF.le (below_cle hb):FnAt lt (wC w') qf fs))
  clear hF
  go_enter Try.func26,Try.ntmps26
  go_wp2_with fail
  refine (refLocals_any _ _ _ _ _ _ _ _ _ _ _ _ hn (HF.out _ (bl_al (Below.refl _ w) _)) _).mono ?_
  rintro e w1 ⟨rfl,hb⟩
  go_wp2_with fail
  go_ret
  exact ⟨rfl,(bl_al (Below.refl _ w) (.cells #[.slice qg ng cg,.slice qa na ca,.slice qh nh ch,.slice qf nf cf] 26)).trans (hb.mono (by simp))⟩
set_option maxRecDepth 100000 in
set_option maxHeartbeats 1000000 in
theorem room_34 {lt:Bool} {fs:List FnM} (hn:fs.length=nf) {w:World} (hF:FnAt lt (wC w) qf fs) (j:Nat) (hj:j<nf) :Calls Try.prog 26 #[moV qg ng cg qa na ca qh nh ch qf nf cf,.int .i64 j,.int .i64 34] w fun e w'=>e=.returned (.int .i64 (locI fs j))∧Below w.heap.size w w':=by
  have HF:=Lib.hid (fun w' (hb:Below w.heap.size w w')=>(hF.le (below_cle hb):FnAt lt (wC w') qf fs))
  clear hF
  go_enter Try.func26,Try.ntmps26
  go_wp2_with fail
  refine (refLocals_any _ _ _ _ _ _ _ _ _ _ _ _ hn (HF.out _ (bl_al (Below.refl _ w) _)) _).mono ?_
  rintro e w1 ⟨rfl,hb⟩
  go_wp2_with fail
  go_ret
  exact ⟨rfl,(bl_al (Below.refl _ w) (.cells #[.slice qg ng cg,.slice qa na ca,.slice qh nh ch,.slice qf nf cf] 26)).trans (hb.mono (by simp))⟩
set_option maxRecDepth 100000 in
set_option maxHeartbeats 1000000 in
theorem room_35 {lt:Bool} {fs:List FnM} (hn:fs.length=nf) {w:World} (hF:FnAt lt (wC w) qf fs) (j:Nat) (hj:j<nf) :Calls Try.prog 26 #[moV qg ng cg qa na ca qh nh ch qf nf cf,.int .i64 j,.int .i64 35] w fun e w'=>e=.returned (.int .i64 ((ng:Int)))∧Below w.heap.size w w':=by
  clear hF hn
  go_enter Try.func26,Try.ntmps26
  go_wp2_with fail
  go_ret
  exact ⟨rfl,bl_al (Below.refl _ w) _⟩
set_option maxRecDepth 100000 in
set_option maxHeartbeats 1000000 in
theorem room_36 {lt:Bool} {fs:List FnM} (hn:fs.length=nf) {w:World} (hF:FnAt lt (wC w) qf fs) (j:Nat) (hj:j<nf) :Calls Try.prog 26 #[moV qg ng cg qa na ca qh nh ch qf nf cf,.int .i64 j,.int .i64 36] w fun e w'=>e=.returned (.int .i64 ((ng:Int)))∧Below w.heap.size w w':=by
  clear hF hn
  go_enter Try.func26,Try.ntmps26
  go_wp2_with fail
  go_ret
  exact ⟨rfl,bl_al (Below.refl _ w) _⟩
set_option maxRecDepth 100000 in
set_option maxHeartbeats 1000000 in
theorem room_37 {lt:Bool} {fs:List FnM} (hn:fs.length=nf) {w:World} (hF:FnAt lt (wC w) qf fs) (j:Nat) (hj:j<nf) :Calls Try.prog 26 #[moV qg ng cg qa na ca qh nh ch qf nf cf,.int .i64 j,.int .i64 37] w fun e w'=>e=.returned (.int .i64 ((na:Int)))∧Below w.heap.size w w':=by
  clear hF hn
  go_enter Try.func26,Try.ntmps26
  go_wp2_with fail
  go_ret
  exact ⟨rfl,bl_al (Below.refl _ w) _⟩
set_option maxRecDepth 100000 in
set_option maxHeartbeats 1000000 in
theorem room_38 {lt:Bool} {fs:List FnM} (hn:fs.length=nf) {w:World} (hF:FnAt lt (wC w) qf fs) (j:Nat) (hj:j<nf) :Calls Try.prog 26 #[moV qg ng cg qa na ca qh nh ch qf nf cf,.int .i64 j,.int .i64 38] w fun e w'=>e=.returned (.int .i64 ((na:Int)))∧Below w.heap.size w w':=by
  clear hF hn
  go_enter Try.func26,Try.ntmps26
  go_wp2_with fail
  go_ret
  exact ⟨rfl,bl_al (Below.refl _ w) _⟩
set_option maxRecDepth 100000 in
set_option maxHeartbeats 1000000 in
theorem room_39 {lt:Bool} {fs:List FnM} (hn:fs.length=nf) {w:World} (hF:FnAt lt (wC w) qf fs) (j:Nat) (hj:j<nf) :Calls Try.prog 26 #[moV qg ng cg qa na ca qh nh ch qf nf cf,.int .i64 j,.int .i64 39] w fun e w'=>e=.returned (.int .i64 (1))∧Below w.heap.size w w':=by
  clear hF hn
  go_enter Try.func26,Try.ntmps26
  go_wp2_with fail
  go_ret
  exact ⟨rfl,bl_al (Below.refl _ w) _⟩
set_option maxRecDepth 100000 in
set_option maxHeartbeats 1000000 in
theorem room_40 {lt:Bool} {fs:List FnM} (hn:fs.length=nf) {w:World} (hF:FnAt lt (wC w) qf fs) (j:Nat) (hj:j<nf) :Calls Try.prog 26 #[moV qg ng cg qa na ca qh nh ch qf nf cf,.int .i64 j,.int .i64 40] w fun e w'=>e=.returned (.int .i64 (1))∧Below w.heap.size w w':=by
  clear hF hn
  go_enter Try.func26,Try.ntmps26
  go_wp2_with fail
  go_ret
  exact ⟨rfl,bl_al (Below.refl _ w) _⟩
set_option maxRecDepth 100000 in
set_option maxHeartbeats 1000000 in
theorem room_41 {lt:Bool} {fs:List FnM} (hn:fs.length=nf) {w:World} (hF:FnAt lt (wC w) qf fs) (j:Nat) (hj:j<nf) :Calls Try.prog 26 #[moV qg ng cg qa na ca qh nh ch qf nf cf,.int .i64 j,.int .i64 41] w fun e w'=>e=.returned (.int .i64 (1))∧Below w.heap.size w w':=by
  clear hF hn
  go_enter Try.func26,Try.ntmps26
  go_wp2_with fail
  go_ret
  exact ⟨rfl,bl_al (Below.refl _ w) _⟩
set_option maxRecDepth 100000 in
set_option maxHeartbeats 1000000 in
theorem room_42 {lt:Bool} {fs:List FnM} (hn:fs.length=nf) {w:World} (hF:FnAt lt (wC w) qf fs) (j:Nat) (hj:j<nf) :Calls Try.prog 26 #[moV qg ng cg qa na ca qh nh ch qf nf cf,.int .i64 j,.int .i64 42] w fun e w'=>e=.returned (.int .i64 (1))∧Below w.heap.size w w':=by
  clear hF hn
  go_enter Try.func26,Try.ntmps26
  go_wp2_with fail
  go_ret
  exact ⟨rfl,bl_al (Below.refl _ w) _⟩
set_option maxRecDepth 100000 in
set_option maxHeartbeats 1000000 in
theorem room_43 {lt:Bool} {fs:List FnM} (hn:fs.length=nf) {w:World} (hF:FnAt lt (wC w) qf fs) (j:Nat) (hj:j<nf) :Calls Try.prog 26 #[moV qg ng cg qa na ca qh nh ch qf nf cf,.int .i64 j,.int .i64 43] w fun e w'=>e=.returned (.int .i64 (((fs[j]'(by omega)).code.length:Int)))∧Below w.heap.size w w':=by
  have hj':j<fs.length:=by omega
  have hjn:(j:Int)<(nf:Int):=by omega
  obtain ⟨g,o,qp,cp,qr,cr,qc,cc,rfl,hK,hcd,_,_,_⟩:=fn_at hF hj'
  clear hcd
  obtain ⟨nc,hc⟩:∃ nc,fs[j].code.length=nc:=⟨_,rfl⟩
  rw [hc] at hK ⊢
  clear hc
  obtain ⟨a0,a1,a2,a3,a4,a5⟩:=hK.le (bl_al (Below.refl _ w) (.cells #[.slice qg ng cg,.slice qa na ca,.slice qh nh ch,.slice (some ⟨g,o,none⟩) nf cf] 26))
  clear hF hn hK a0 a1 a2 a3 a4
  go_enter Try.func26,Try.ntmps26
  go_wp2_with fail
  go_ret
  exact ⟨rfl,bl_al (Below.refl _ w) _⟩
set_option maxRecDepth 100000 in
set_option maxHeartbeats 1000000 in
theorem room_44 {lt:Bool} {fs:List FnM} (hn:fs.length=nf) {w:World} (hF:FnAt lt (wC w) qf fs) (j:Nat) (hj:j<nf) :Calls Try.prog 26 #[moV qg ng cg qa na ca qh nh ch qf nf cf,.int .i64 j,.int .i64 44] w fun e w'=>e=.returned (.int .i64 (((fs[j]'(by omega)).code.length:Int)))∧Below w.heap.size w w':=by
  have hj':j<fs.length:=by omega
  have hjn:(j:Int)<(nf:Int):=by omega
  obtain ⟨g,o,qp,cp,qr,cr,qc,cc,rfl,hK,hcd,_,_,_⟩:=fn_at hF hj'
  clear hcd
  obtain ⟨nc,hc⟩:∃ nc,fs[j].code.length=nc:=⟨_,rfl⟩
  rw [hc] at hK ⊢
  clear hc
  obtain ⟨a0,a1,a2,a3,a4,a5⟩:=hK.le (bl_al (Below.refl _ w) (.cells #[.slice qg ng cg,.slice qa na ca,.slice qh nh ch,.slice (some ⟨g,o,none⟩) nf cf] 26))
  clear hF hn hK a0 a1 a2 a3 a4
  go_enter Try.func26,Try.ntmps26
  go_wp2_with fail
  go_ret
  exact ⟨rfl,bl_al (Below.refl _ w) _⟩
set_option maxRecDepth 100000 in
set_option maxHeartbeats 1000000 in
theorem room_45 {lt:Bool} {fs:List FnM} (hn:fs.length=nf) {w:World} (hF:FnAt lt (wC w) qf fs) (j:Nat) (hj:j<nf) :Calls Try.prog 26 #[moV qg ng cg qa na ca qh nh ch qf nf cf,.int .i64 j,.int .i64 45] w fun e w'=>e=.returned (.int .i64 ((nf:Int)))∧Below w.heap.size w w':=by
  clear hF hn
  go_enter Try.func26,Try.ntmps26
  go_wp2_with fail
  go_ret
  exact ⟨rfl,bl_al (Below.refl _ w) _⟩
set_option maxRecDepth 100000 in
set_option maxHeartbeats 1000000 in
theorem room_46 {lt:Bool} {fs:List FnM} (hn:fs.length=nf) {w:World} (hF:FnAt lt (wC w) qf fs) (j:Nat) (hj:j<nf) :Calls Try.prog 26 #[moV qg ng cg qa na ca qh nh ch qf nf cf,.int .i64 j,.int .i64 46] w fun e w'=>e=.returned (.int .i64 (1))∧Below w.heap.size w w':=by
  clear hF hn
  go_enter Try.func26,Try.ntmps26
  go_wp2_with fail
  go_ret
  exact ⟨rfl,bl_al (Below.refl _ w) _⟩
set_option maxRecDepth 100000 in
set_option maxHeartbeats 1000000 in
theorem room_47 {lt:Bool} {fs:List FnM} (hn:fs.length=nf) {w:World} (hF:FnAt lt (wC w) qf fs) (j:Nat) (hj:j<nf) :Calls Try.prog 26 #[moV qg ng cg qa na ca qh nh ch qf nf cf,.int .i64 j,.int .i64 47] w fun e w'=>e=.returned (.int .i64 ((nh:Int)))∧Below w.heap.size w w':=by
  clear hF hn
  go_enter Try.func26,Try.ntmps26
  go_wp2_with fail
  go_ret
  exact ⟨rfl,bl_al (Below.refl _ w) _⟩
set_option maxRecDepth 100000 in
set_option maxHeartbeats 1000000 in
theorem room_ar {lt:Bool} {fs:List FnM} (hn:fs.length=nf) {w:World} (hF:FnAt lt (wC w) qf fs) (j:Nat) (hj:j<nf) (op:Int) (h1:1≤op) (h2:op≤17):Calls Try.prog 26 #[moV qg ng cg qa na ca qh nh ch qf nf cf,.int .i64 j,.int .i64 op] w fun e w'=>e=.returned (.int .i64 1)∧Below w.heap.size w w':=by
  clear hF hn
  go_enter Try.func26,Try.ntmps26
  go_wp2_with fail
  go_ret
  exact ⟨rfl,bl_al (Below.refl _ w) _⟩
set_option maxRecDepth 100000 in
set_option maxHeartbeats 1000000 in
theorem room_lo {lt:Bool} {fs:List FnM} (hn:fs.length=nf) {w:World} (hF:FnAt lt (wC w) qf fs) (j:Nat) (hj:j<nf) (op:Int) (h1:op<1) (h2:¬ (32≤op∧op≤47)):Calls Try.prog 26 #[moV qg ng cg qa na ca qh nh ch qf nf cf,.int .i64 j,.int .i64 op] w fun e w'=>e=.returned (.int .i64 (-2))∧Below w.heap.size w w':=by
  have k32:(op == 32)=false:=eqb (by omega)
  have k33:(op == 33)=false:=eqb (by omega)
  have k34:(op == 34)=false:=eqb (by omega)
  have k35:(op == 35)=false:=eqb (by omega)
  have k36:(op == 36)=false:=eqb (by omega)
  have k37:(op == 37)=false:=eqb (by omega)
  have k38:(op == 38)=false:=eqb (by omega)
  have k39:(op == 39)=false:=eqb (by omega)
  have k40:(op == 40)=false:=eqb (by omega)
  have k41:(op == 41)=false:=eqb (by omega)
  have k42:(op == 42)=false:=eqb (by omega)
  have k43:(op == 43)=false:=eqb (by omega)
  have k44:(op == 44)=false:=eqb (by omega)
  have k45:(op == 45)=false:=eqb (by omega)
  have k46:(op == 46)=false:=eqb (by omega)
  have k47:(op == 47)=false:=eqb (by omega)
  clear hF hn h2
  go_enter Try.func26,Try.ntmps26
  go_wp2_with fail
  go_ret
  exact ⟨rfl,bl_al (Below.refl _ w) _⟩
set_option maxRecDepth 100000 in
set_option maxHeartbeats 1000000 in
theorem room_hi {lt:Bool} {fs:List FnM} (hn:fs.length=nf) {w:World} (hF:FnAt lt (wC w) qf fs) (j:Nat) (hj:j<nf) (op:Int) (h1:op > 17) (h2:¬ (32≤op∧op≤47)):Calls Try.prog 26 #[moV qg ng cg qa na ca qh nh ch qf nf cf,.int .i64 j,.int .i64 op] w fun e w'=>e=.returned (.int .i64 (-2))∧Below w.heap.size w w':=by
  have k32:(op == 32)=false:=eqb (by omega)
  have k33:(op == 33)=false:=eqb (by omega)
  have k34:(op == 34)=false:=eqb (by omega)
  have k35:(op == 35)=false:=eqb (by omega)
  have k36:(op == 36)=false:=eqb (by omega)
  have k37:(op == 37)=false:=eqb (by omega)
  have k38:(op == 38)=false:=eqb (by omega)
  have k39:(op == 39)=false:=eqb (by omega)
  have k40:(op == 40)=false:=eqb (by omega)
  have k41:(op == 41)=false:=eqb (by omega)
  have k42:(op == 42)=false:=eqb (by omega)
  have k43:(op == 43)=false:=eqb (by omega)
  have k44:(op == 44)=false:=eqb (by omega)
  have k45:(op == 45)=false:=eqb (by omega)
  have k46:(op == 46)=false:=eqb (by omega)
  have k47:(op == 47)=false:=eqb (by omega)
  clear hF hn h2
  go_enter Try.func26,Try.ntmps26
  go_wp2_with fail
  go_ret
  exact ⟨rfl,bl_al (Below.refl _ w) _⟩
set_option maxRecDepth 100000 in
set_option maxHeartbeats 1000000 in
theorem room_any {lt:Bool} {fs:List FnM} (hn:fs.length=nf) {w:World} (hF:FnAt lt (wC w) qf fs) (j:Nat) (hj:j<nf) (op:Int):Calls Try.prog 26 #[moV qg ng cg qa na ca qh nh ch qf nf cf,.int .i64 j,.int .i64 op] w fun e w'=>e=.returned (.int .i64 (rooI ng na nh fs j op))∧Below w.heap.size w w':=by
  by_cases h:1≤op∧op≤17
  · refine (room_ar qg ng cg qa na ca qh nh ch qf nf cf hn hF j hj op h.1 h.2).mono ?_
    rintro e w' ⟨rfl,hb⟩
    exact ⟨by rw [rooI,if_pos h],hb⟩
  · by_cases h3:32≤op∧op≤47
    · have e1:op=32 ∨ op=33 ∨ op=34 ∨ op=35 ∨ op=36 ∨ op=37 ∨ op=38 ∨ op=39 ∨ op=40 ∨ op=41 ∨ op=42 ∨ op=43 ∨ op=44 ∨ op=45 ∨ op=46 ∨ op=47:=by omega
      have hg:fs[j]?.getD default=fs[j]'(by omega):=by rw [List.getElem?_eq_getElem (by omega)];rfl
      rcases e1 with rfl | rfl | rfl | rfl | rfl | rfl | rfl | rfl | rfl | rfl | rfl | rfl | rfl | rfl | rfl | rfl
      · refine (room_32 qg ng cg qa na ca qh nh ch qf nf cf hn hF j hj).mono ?_
        rintro e w' ⟨rfl,hb⟩
        exact ⟨by simp [rooI],hb⟩
      · refine (room_33 qg ng cg qa na ca qh nh ch qf nf cf hn hF j hj).mono ?_
        rintro e w' ⟨rfl,hb⟩
        exact ⟨by simp [rooI],hb⟩
      · refine (room_34 qg ng cg qa na ca qh nh ch qf nf cf hn hF j hj).mono ?_
        rintro e w' ⟨rfl,hb⟩
        exact ⟨by simp [rooI],hb⟩
      · refine (room_35 qg ng cg qa na ca qh nh ch qf nf cf hn hF j hj).mono ?_
        rintro e w' ⟨rfl,hb⟩
        exact ⟨by simp [rooI],hb⟩
      · refine (room_36 qg ng cg qa na ca qh nh ch qf nf cf hn hF j hj).mono ?_
        rintro e w' ⟨rfl,hb⟩
        exact ⟨by simp [rooI],hb⟩
      · refine (room_37 qg ng cg qa na ca qh nh ch qf nf cf hn hF j hj).mono ?_
        rintro e w' ⟨rfl,hb⟩
        exact ⟨by simp [rooI],hb⟩
      · refine (room_38 qg ng cg qa na ca qh nh ch qf nf cf hn hF j hj).mono ?_
        rintro e w' ⟨rfl,hb⟩
        exact ⟨by simp [rooI],hb⟩
      · refine (room_39 qg ng cg qa na ca qh nh ch qf nf cf hn hF j hj).mono ?_
        rintro e w' ⟨rfl,hb⟩
        exact ⟨by simp [rooI],hb⟩
      · refine (room_40 qg ng cg qa na ca qh nh ch qf nf cf hn hF j hj).mono ?_
        rintro e w' ⟨rfl,hb⟩
        exact ⟨by simp [rooI],hb⟩
      · refine (room_41 qg ng cg qa na ca qh nh ch qf nf cf hn hF j hj).mono ?_
        rintro e w' ⟨rfl,hb⟩
        exact ⟨by simp [rooI],hb⟩
      · refine (room_42 qg ng cg qa na ca qh nh ch qf nf cf hn hF j hj).mono ?_
        rintro e w' ⟨rfl,hb⟩
        exact ⟨by simp [rooI],hb⟩
      · refine (room_43 qg ng cg qa na ca qh nh ch qf nf cf hn hF j hj).mono ?_
        rintro e w' ⟨rfl,hb⟩
        exact ⟨by simp [rooI,hg],hb⟩
      · refine (room_44 qg ng cg qa na ca qh nh ch qf nf cf hn hF j hj).mono ?_
        rintro e w' ⟨rfl,hb⟩
        exact ⟨by simp [rooI,hg],hb⟩
      · refine (room_45 qg ng cg qa na ca qh nh ch qf nf cf hn hF j hj).mono ?_
        rintro e w' ⟨rfl,hb⟩
        exact ⟨by simp [rooI,hn],hb⟩
      · refine (room_46 qg ng cg qa na ca qh nh ch qf nf cf hn hF j hj).mono ?_
        rintro e w' ⟨rfl,hb⟩
        exact ⟨by simp [rooI],hb⟩
      · refine (room_47 qg ng cg qa na ca qh nh ch qf nf cf hn hF j hj).mono ?_
        rintro e w' ⟨rfl,hb⟩
        exact ⟨by simp [rooI],hb⟩
    · have hz:rooI ng na nh fs j op=-2:=by
        rw [rooI,if_neg h,if_neg (by omega),if_neg (by omega),if_neg (by omega),if_neg (by omega),if_neg (by omega),if_neg (by omega),if_neg (by omega),if_neg (by omega)]
      rw [hz]
      by_cases h1:op<1
      · exact room_lo qg ng cg qa na ca qh nh ch qf nf cf hn hF j hj op h1 h3
      · exact room_hi qg ng cg qa na ca qh nh ch qf nf cf hn hF j hj op (by omega) h3
end
end Go.Proofs.Ythjkbfamkogoiaa
namespace Go.Proofs.Ythjkbfamkogoiaa
open Go Go.RowKit Go.Proofs.Mm Go.Sort
theorem new_in {w:World} {n:Nat} (op a:Int) (T:TypeId) (h:w.heap.size=n):(w.alloc (.cells #[.int .i64 op,.int .i64 a] T)).cell? ⟨n,1,none⟩=some (.int .i64 a):=by subst h;rw [World.cell?_alloc_new];rfl
section
variable (qg:Option Addr) (ng cg:Nat) (qa:Option Addr) (na ca:Nat) (qh:Option Addr) (nh ch:Nat) (qf:Option Addr) (nf cf:Nat)
set_option maxRecDepth 100000 in
set_option maxHeartbeats 1000000 in
theorem opn_32 {lt:Bool} {fs:List FnM} (hn:fs.length=nf) {w:World} (hF:FnAt lt (wC w) qf fs) (j:Nat) (hj:j<nf) (a:Int) :Calls Try.prog 25 #[moV qg ng cg qa na ca qh nh ch qf nf cf,.int .i64 j,inV 32 a] w fun e w'=>e=.returned (.bool (true))∧Below w.heap.size w w':=by
  clear hF hn
  go_enter Try.func25,Try.ntmps25
  go_wp2_with fail
  go_ret
  exact ⟨rfl,bl_al (bl_al (Below.refl _ w) _) _⟩
set_option maxRecDepth 100000 in
set_option maxHeartbeats 1000000 in
theorem opn_33 {lt:Bool} {fs:List FnM} (hn:fs.length=nf) {w:World} (hF:FnAt lt (wC w) qf fs) (j:Nat) (hj:j<nf) (a:Int) :Calls Try.prog 25 #[moV qg ng cg qa na ca qh nh ch qf nf cf,.int .i64 j,inV 33 a] w fun e w'=>e=.returned (.bool (blI a (locI fs j)))∧Below w.heap.size w w':=by
  have HF:=Lib.hid (fun w' (hb:Below w.heap.size w w')=>(hF.le (below_cle hb):FnAt lt (wC w') qf fs))
  clear hF
  go_enter Try.func25,Try.ntmps25
  go_wp2_with fail
  refine (Locals_any _ _ _ _ _ _ _ _ _ _ _ _ hn (HF.out _ (bl_al (bl_al (Below.refl _ w) _) _)) _).mono ?_
  rintro e w1 ⟨rfl,hb⟩
  have hi:w1.cell? ⟨w.heap.size+1,1,none⟩=some (.int .i64 a):=cell_b ((InB.new' (w:=w.alloc (.cells #[.slice qg ng cg,.slice qa na ca,.slice qh nh ch,.slice qf nf cf] 26)) #[.int .i64 33,.int .i64 a] 35 (by simp)).cell rfl) hb
  have HB:=Lib.hid ((bl_al (bl_al (Below.refl _ w) _) _:Below w.heap.size w ((w.alloc (.cells #[.slice qg ng cg,.slice qa na ca,.slice qh nh ch,.slice qf nf cf] 26)).alloc (.cells #[.int .i64 33,.int .i64 a] 35))).trans (hb.mono (by simp;omega)))
  clear hb
  go_wp2_with fail
  refine (below1_any _ a _ _ hi).mono ?_
  rintro e w2 ⟨rfl,rfl⟩
  go_wp2_with fail
  go_ret
  exact ⟨rfl,HB.out⟩
set_option maxRecDepth 100000 in
set_option maxHeartbeats 1000000 in
theorem opn_34 {lt:Bool} {fs:List FnM} (hn:fs.length=nf) {w:World} (hF:FnAt lt (wC w) qf fs) (j:Nat) (hj:j<nf) (a:Int) :Calls Try.prog 25 #[moV qg ng cg qa na ca qh nh ch qf nf cf,.int .i64 j,inV 34 a] w fun e w'=>e=.returned (.bool (blI a (locI fs j)))∧Below w.heap.size w w':=by
  have HF:=Lib.hid (fun w' (hb:Below w.heap.size w w')=>(hF.le (below_cle hb):FnAt lt (wC w') qf fs))
  clear hF
  go_enter Try.func25,Try.ntmps25
  go_wp2_with fail
  refine (Locals_any _ _ _ _ _ _ _ _ _ _ _ _ hn (HF.out _ (bl_al (bl_al (Below.refl _ w) _) _)) _).mono ?_
  rintro e w1 ⟨rfl,hb⟩
  have hi:w1.cell? ⟨w.heap.size+1,1,none⟩=some (.int .i64 a):=cell_b ((InB.new' (w:=w.alloc (.cells #[.slice qg ng cg,.slice qa na ca,.slice qh nh ch,.slice qf nf cf] 26)) #[.int .i64 34,.int .i64 a] 35 (by simp)).cell rfl) hb
  have HB:=Lib.hid ((bl_al (bl_al (Below.refl _ w) _) _:Below w.heap.size w ((w.alloc (.cells #[.slice qg ng cg,.slice qa na ca,.slice qh nh ch,.slice qf nf cf] 26)).alloc (.cells #[.int .i64 34,.int .i64 a] 35))).trans (hb.mono (by simp;omega)))
  clear hb
  go_wp2_with fail
  refine (below1_any _ a _ _ hi).mono ?_
  rintro e w2 ⟨rfl,rfl⟩
  go_wp2_with fail
  go_ret
  exact ⟨rfl,HB.out⟩
set_option maxRecDepth 100000 in
set_option maxHeartbeats 1000000 in
theorem opn_35 {lt:Bool} {fs:List FnM} (hn:fs.length=nf) {w:World} (hF:FnAt lt (wC w) qf fs) (j:Nat) (hj:j<nf) (a:Int) :Calls Try.prog 25 #[moV qg ng cg qa na ca qh nh ch qf nf cf,.int .i64 j,inV 35 a] w fun e w'=>e=.returned (.bool (blI a ng))∧Below w.heap.size w w':=by
  clear hF hn
  go_enter Try.func25,Try.ntmps25
  go_wp2_with fail
  refine (below1_any _ a _ _ (new_in _ _ _ (by simp))).mono ?_
  rintro e w2 ⟨rfl,rfl⟩
  go_wp2_with fail
  go_ret
  exact ⟨rfl,bl_al (bl_al (Below.refl _ w) _) _⟩
set_option maxRecDepth 100000 in
set_option maxHeartbeats 1000000 in
theorem opn_36 {lt:Bool} {fs:List FnM} (hn:fs.length=nf) {w:World} (hF:FnAt lt (wC w) qf fs) (j:Nat) (hj:j<nf) (a:Int) :Calls Try.prog 25 #[moV qg ng cg qa na ca qh nh ch qf nf cf,.int .i64 j,inV 36 a] w fun e w'=>e=.returned (.bool (blI a ng))∧Below w.heap.size w w':=by
  clear hF hn
  go_enter Try.func25,Try.ntmps25
  go_wp2_with fail
  refine (below1_any _ a _ _ (new_in _ _ _ (by simp))).mono ?_
  rintro e w2 ⟨rfl,rfl⟩
  go_wp2_with fail
  go_ret
  exact ⟨rfl,bl_al (bl_al (Below.refl _ w) _) _⟩
set_option maxRecDepth 100000 in
set_option maxHeartbeats 1000000 in
theorem opn_37 {lt:Bool} {fs:List FnM} (hn:fs.length=nf) {w:World} (hF:FnAt lt (wC w) qf fs) (j:Nat) (hj:j<nf) (a:Int) :Calls Try.prog 25 #[moV qg ng cg qa na ca qh nh ch qf nf cf,.int .i64 j,inV 37 a] w fun e w'=>e=.returned (.bool (blI a na))∧Below w.heap.size w w':=by
  clear hF hn
  go_enter Try.func25,Try.ntmps25
  go_wp2_with fail
  refine (below1_any _ a _ _ (new_in _ _ _ (by simp))).mono ?_
  rintro e w2 ⟨rfl,rfl⟩
  go_wp2_with fail
  go_ret
  exact ⟨rfl,bl_al (bl_al (Below.refl _ w) _) _⟩
set_option maxRecDepth 100000 in
set_option maxHeartbeats 1000000 in
theorem opn_38 {lt:Bool} {fs:List FnM} (hn:fs.length=nf) {w:World} (hF:FnAt lt (wC w) qf fs) (j:Nat) (hj:j<nf) (a:Int) :Calls Try.prog 25 #[moV qg ng cg qa na ca qh nh ch qf nf cf,.int .i64 j,inV 38 a] w fun e w'=>e=.returned (.bool (blI a na))∧Below w.heap.size w w':=by
  clear hF hn
  go_enter Try.func25,Try.ntmps25
  go_wp2_with fail
  refine (below1_any _ a _ _ (new_in _ _ _ (by simp))).mono ?_
  rintro e w2 ⟨rfl,rfl⟩
  go_wp2_with fail
  go_ret
  exact ⟨rfl,bl_al (bl_al (Below.refl _ w) _) _⟩
set_option maxRecDepth 100000 in
set_option maxHeartbeats 1000000 in
theorem opn_39 {lt:Bool} {fs:List FnM} (hn:fs.length=nf) {w:World} (hF:FnAt lt (wC w) qf fs) (j:Nat) (hj:j<nf) (a:Int) :Calls Try.prog 25 #[moV qg ng cg qa na ca qh nh ch qf nf cf,.int .i64 j,inV 39 a] w fun e w'=>e=.returned (.bool (decide (a=0)))∧Below w.heap.size w w':=by
  clear hF hn
  by_cases ha:a=0
  · subst ha
    go_enter Try.func25,Try.ntmps25
    go_wp2_with fail
    go_ret
    exact ⟨rfl,bl_al (bl_al (Below.refl _ w) _) _⟩
  · have ka:(a == 0)=false:=eqb ha
    rw [decide_eq_false ha]
    clear ha
    go_enter Try.func25,Try.ntmps25
    go_wp2_with fail
    go_ret
    exact ⟨rfl,bl_al (bl_al (Below.refl _ w) _) _⟩
set_option maxRecDepth 100000 in
set_option maxHeartbeats 1000000 in
theorem opn_40 {lt:Bool} {fs:List FnM} (hn:fs.length=nf) {w:World} (hF:FnAt lt (wC w) qf fs) (j:Nat) (hj:j<nf) (a:Int) :Calls Try.prog 25 #[moV qg ng cg qa na ca qh nh ch qf nf cf,.int .i64 j,inV 40 a] w fun e w'=>e=.returned (.bool (decide (a=0)))∧Below w.heap.size w w':=by
  clear hF hn
  by_cases ha:a=0
  · subst ha
    go_enter Try.func25,Try.ntmps25
    go_wp2_with fail
    go_ret
    exact ⟨rfl,bl_al (bl_al (Below.refl _ w) _) _⟩
  · have ka:(a == 0)=false:=eqb ha
    rw [decide_eq_false ha]
    clear ha
    go_enter Try.func25,Try.ntmps25
    go_wp2_with fail
    go_ret
    exact ⟨rfl,bl_al (bl_al (Below.refl _ w) _) _⟩
set_option maxRecDepth 100000 in
set_option maxHeartbeats 1000000 in
theorem opn_41 {lt:Bool} {fs:List FnM} (hn:fs.length=nf) {w:World} (hF:FnAt lt (wC w) qf fs) (j:Nat) (hj:j<nf) (a:Int) :Calls Try.prog 25 #[moV qg ng cg qa na ca qh nh ch qf nf cf,.int .i64 j,inV 41 a] w fun e w'=>e=.returned (.bool (decide (a=0)))∧Below w.heap.size w w':=by
  clear hF hn
  by_cases ha:a=0
  · subst ha
    go_enter Try.func25,Try.ntmps25
    go_wp2_with fail
    go_ret
    exact ⟨rfl,bl_al (bl_al (Below.refl _ w) _) _⟩
  · have ka:(a == 0)=false:=eqb ha
    rw [decide_eq_false ha]
    clear ha
    go_enter Try.func25,Try.ntmps25
    go_wp2_with fail
    go_ret
    exact ⟨rfl,bl_al (bl_al (Below.refl _ w) _) _⟩
set_option maxRecDepth 100000 in
set_option maxHeartbeats 1000000 in
theorem opn_42 {lt:Bool} {fs:List FnM} (hn:fs.length=nf) {w:World} (hF:FnAt lt (wC w) qf fs) (j:Nat) (hj:j<nf) (a:Int) :Calls Try.prog 25 #[moV qg ng cg qa na ca qh nh ch qf nf cf,.int .i64 j,inV 42 a] w fun e w'=>e=.returned (.bool (decide (a=0)))∧Below w.heap.size w w':=by
  clear hF hn
  by_cases ha:a=0
  · subst ha
    go_enter Try.func25,Try.ntmps25
    go_wp2_with fail
    go_ret
    exact ⟨rfl,bl_al (bl_al (Below.refl _ w) _) _⟩
  · have ka:(a == 0)=false:=eqb ha
    rw [decide_eq_false ha]
    clear ha
    go_enter Try.func25,Try.ntmps25
    go_wp2_with fail
    go_ret
    exact ⟨rfl,bl_al (bl_al (Below.refl _ w) _) _⟩
set_option maxRecDepth 100000 in
set_option maxHeartbeats 1000000 in
theorem opn_43 {lt:Bool} {fs:List FnM} (hn:fs.length=nf) {w:World} (hF:FnAt lt (wC w) qf fs) (j:Nat) (hj:j<nf) (a:Int) :Calls Try.prog 25 #[moV qg ng cg qa na ca qh nh ch qf nf cf,.int .i64 j,inV 43 a] w fun e w'=>e=.returned (.bool (blI a (fs[j]'(by omega)).code.length))∧Below w.heap.size w w':=by
  have hj':j<fs.length:=by omega
  have hjn:(j:Int)<(nf:Int):=by omega
  obtain ⟨g,o,qp,cp,qr,cr,qc,cc,rfl,hK,hcd,_,_,_⟩:=fn_at hF hj'
  clear hcd
  obtain ⟨nc,hc⟩:∃ nc,fs[j].code.length=nc:=⟨_,rfl⟩
  rw [hc] at hK ⊢
  clear hc
  obtain ⟨a0,a1,a2,a3,a4,a5⟩:=hK.le (bl_al (bl_al (Below.refl _ w) _) _:Below w.heap.size w ((w.alloc (.cells #[.slice qg ng cg,.slice qa na ca,.slice qh nh ch,.slice (some ⟨g,o,none⟩) nf cf] 26)).alloc (.cells #[.int .i64 43,.int .i64 a] 35)))
  clear hF hn hK a0 a1 a2 a3 a4
  go_enter Try.func25,Try.ntmps25
  go_wp2_with fail
  refine (below1_any _ a _ _ (new_in _ _ _ (by simp))).mono ?_
  rintro e w2 ⟨rfl,rfl⟩
  go_wp2_with fail
  go_ret
  exact ⟨rfl,bl_al (bl_al (Below.refl _ w) _) _⟩
set_option maxRecDepth 100000 in
set_option maxHeartbeats 1000000 in
theorem opn_44 {lt:Bool} {fs:List FnM} (hn:fs.length=nf) {w:World} (hF:FnAt lt (wC w) qf fs) (j:Nat) (hj:j<nf) (a:Int) :Calls Try.prog 25 #[moV qg ng cg qa na ca qh nh ch qf nf cf,.int .i64 j,inV 44 a] w fun e w'=>e=.returned (.bool (blI a (fs[j]'(by omega)).code.length))∧Below w.heap.size w w':=by
  have hj':j<fs.length:=by omega
  have hjn:(j:Int)<(nf:Int):=by omega
  obtain ⟨g,o,qp,cp,qr,cr,qc,cc,rfl,hK,hcd,_,_,_⟩:=fn_at hF hj'
  clear hcd
  obtain ⟨nc,hc⟩:∃ nc,fs[j].code.length=nc:=⟨_,rfl⟩
  rw [hc] at hK ⊢
  clear hc
  obtain ⟨a0,a1,a2,a3,a4,a5⟩:=hK.le (bl_al (bl_al (Below.refl _ w) _) _:Below w.heap.size w ((w.alloc (.cells #[.slice qg ng cg,.slice qa na ca,.slice qh nh ch,.slice (some ⟨g,o,none⟩) nf cf] 26)).alloc (.cells #[.int .i64 44,.int .i64 a] 35)))
  clear hF hn hK a0 a1 a2 a3 a4
  go_enter Try.func25,Try.ntmps25
  go_wp2_with fail
  refine (below1_any _ a _ _ (new_in _ _ _ (by simp))).mono ?_
  rintro e w2 ⟨rfl,rfl⟩
  go_wp2_with fail
  go_ret
  exact ⟨rfl,bl_al (bl_al (Below.refl _ w) _) _⟩
set_option maxRecDepth 100000 in
set_option maxHeartbeats 1000000 in
theorem opn_45 {lt:Bool} {fs:List FnM} (hn:fs.length=nf) {w:World} (hF:FnAt lt (wC w) qf fs) (j:Nat) (hj:j<nf) (a:Int) :Calls Try.prog 25 #[moV qg ng cg qa na ca qh nh ch qf nf cf,.int .i64 j,inV 45 a] w fun e w'=>e=.returned (.bool (blI a nf))∧Below w.heap.size w w':=by
  clear hF hn
  go_enter Try.func25,Try.ntmps25
  go_wp2_with fail
  refine (below1_any _ a _ _ (new_in _ _ _ (by simp))).mono ?_
  rintro e w2 ⟨rfl,rfl⟩
  go_wp2_with fail
  go_ret
  exact ⟨rfl,bl_al (bl_al (Below.refl _ w) _) _⟩
set_option maxRecDepth 100000 in
set_option maxHeartbeats 1000000 in
theorem opn_46 {lt:Bool} {fs:List FnM} (hn:fs.length=nf) {w:World} (hF:FnAt lt (wC w) qf fs) (j:Nat) (hj:j<nf) (a:Int) :Calls Try.prog 25 #[moV qg ng cg qa na ca qh nh ch qf nf cf,.int .i64 j,inV 46 a] w fun e w'=>e=.returned (.bool (decide (a=0)))∧Below w.heap.size w w':=by
  clear hF hn
  by_cases ha:a=0
  · subst ha
    go_enter Try.func25,Try.ntmps25
    go_wp2_with fail
    go_ret
    exact ⟨rfl,bl_al (bl_al (Below.refl _ w) _) _⟩
  · have ka:(a == 0)=false:=eqb ha
    rw [decide_eq_false ha]
    clear ha
    go_enter Try.func25,Try.ntmps25
    go_wp2_with fail
    go_ret
    exact ⟨rfl,bl_al (bl_al (Below.refl _ w) _) _⟩
set_option maxRecDepth 100000 in
set_option maxHeartbeats 1000000 in
theorem opn_47 {lt:Bool} {fs:List FnM} (hn:fs.length=nf) {w:World} (hF:FnAt lt (wC w) qf fs) (j:Nat) (hj:j<nf) (a:Int) :Calls Try.prog 25 #[moV qg ng cg qa na ca qh nh ch qf nf cf,.int .i64 j,inV 47 a] w fun e w'=>e=.returned (.bool (blI a nh))∧Below w.heap.size w w':=by
  clear hF hn
  go_enter Try.func25,Try.ntmps25
  go_wp2_with fail
  refine (below1_any _ a _ _ (new_in _ _ _ (by simp))).mono ?_
  rintro e w2 ⟨rfl,rfl⟩
  go_wp2_with fail
  go_ret
  exact ⟨rfl,bl_al (bl_al (Below.refl _ w) _) _⟩
set_option maxRecDepth 100000 in
set_option maxHeartbeats 1000000 in
theorem opn_ar {lt:Bool} {fs:List FnM} (hn:fs.length=nf) {w:World} (hF:FnAt lt (wC w) qf fs) (j:Nat) (hj:j<nf) (a:Int) (op:Int) (h:¬ (32≤op∧op≤47)):Calls Try.prog 25 #[moV qg ng cg qa na ca qh nh ch qf nf cf,.int .i64 j,inV op a] w fun e w'=>e=.returned (.bool (decide (a=0)))∧Below w.heap.size w w':=by
  have k32:(op == 32)=false:=eqb (by omega)
  have k33:(op == 33)=false:=eqb (by omega)
  have k34:(op == 34)=false:=eqb (by omega)
  have k35:(op == 35)=false:=eqb (by omega)
  have k36:(op == 36)=false:=eqb (by omega)
  have k37:(op == 37)=false:=eqb (by omega)
  have k38:(op == 38)=false:=eqb (by omega)
  have k43:(op == 43)=false:=eqb (by omega)
  have k44:(op == 44)=false:=eqb (by omega)
  have k45:(op == 45)=false:=eqb (by omega)
  have k47:(op == 47)=false:=eqb (by omega)
  clear hF hn h
  by_cases ha:a=0
  · subst ha
    go_enter Try.func25,Try.ntmps25
    go_wp2_with fail
    go_ret
    exact ⟨rfl,bl_al (bl_al (Below.refl _ w) _) _⟩
  · have ka:(a == 0)=false:=eqb ha
    rw [decide_eq_false ha]
    clear ha
    go_enter Try.func25,Try.ntmps25
    go_wp2_with fail
    go_ret
    exact ⟨rfl,bl_al (bl_al (Below.refl _ w) _) _⟩
set_option maxRecDepth 100000 in
set_option maxHeartbeats 1000000 in
theorem mayOperand_any {lt:Bool} {fs:List FnM} (hn:fs.length=nf) {w:World} (hF:FnAt lt (wC w) qf fs) (j:Nat) (hj:j<nf) (a:Int) (op:Int):Calls Try.prog 25 #[moV qg ng cg qa na ca qh nh ch qf nf cf,.int .i64 j,inV op a] w fun e w'=>e=.returned (.bool (opnI ng na nh fs j op a))∧Below w.heap.size w w':=by
  by_cases h3:32≤op∧op≤47
  · have e1:op=32 ∨ op=33 ∨ op=34 ∨ op=35 ∨ op=36 ∨ op=37 ∨ op=38 ∨ op=39 ∨ op=40 ∨ op=41 ∨ op=42 ∨ op=43 ∨ op=44 ∨ op=45 ∨ op=46 ∨ op=47:=by omega
    have hg:fs[j]?.getD default=fs[j]'(by omega):=by rw [List.getElem?_eq_getElem (by omega)];rfl
    rcases e1 with rfl | rfl | rfl | rfl | rfl | rfl | rfl | rfl | rfl | rfl | rfl | rfl | rfl | rfl | rfl | rfl
    · refine (opn_32 qg ng cg qa na ca qh nh ch qf nf cf hn hF j hj a).mono ?_
      rintro e w' ⟨rfl,hb⟩
      exact ⟨by simp [opnI],hb⟩
    · refine (opn_33 qg ng cg qa na ca qh nh ch qf nf cf hn hF j hj a).mono ?_
      rintro e w' ⟨rfl,hb⟩
      exact ⟨by simp [opnI],hb⟩
    · refine (opn_34 qg ng cg qa na ca qh nh ch qf nf cf hn hF j hj a).mono ?_
      rintro e w' ⟨rfl,hb⟩
      exact ⟨by simp [opnI],hb⟩
    · refine (opn_35 qg ng cg qa na ca qh nh ch qf nf cf hn hF j hj a).mono ?_
      rintro e w' ⟨rfl,hb⟩
      exact ⟨by simp [opnI],hb⟩
    · refine (opn_36 qg ng cg qa na ca qh nh ch qf nf cf hn hF j hj a).mono ?_
      rintro e w' ⟨rfl,hb⟩
      exact ⟨by simp [opnI],hb⟩
    · refine (opn_37 qg ng cg qa na ca qh nh ch qf nf cf hn hF j hj a).mono ?_
      rintro e w' ⟨rfl,hb⟩
      exact ⟨by simp [opnI],hb⟩
    · refine (opn_38 qg ng cg qa na ca qh nh ch qf nf cf hn hF j hj a).mono ?_
      rintro e w' ⟨rfl,hb⟩
      exact ⟨by simp [opnI],hb⟩
    · refine (opn_39 qg ng cg qa na ca qh nh ch qf nf cf hn hF j hj a).mono ?_
      rintro e w' ⟨rfl,hb⟩
      exact ⟨by simp [opnI],hb⟩
    · refine (opn_40 qg ng cg qa na ca qh nh ch qf nf cf hn hF j hj a).mono ?_
      rintro e w' ⟨rfl,hb⟩
      exact ⟨by simp [opnI],hb⟩
    · refine (opn_41 qg ng cg qa na ca qh nh ch qf nf cf hn hF j hj a).mono ?_
      rintro e w' ⟨rfl,hb⟩
      exact ⟨by simp [opnI],hb⟩
    · refine (opn_42 qg ng cg qa na ca qh nh ch qf nf cf hn hF j hj a).mono ?_
      rintro e w' ⟨rfl,hb⟩
      exact ⟨by simp [opnI],hb⟩
    · refine (opn_43 qg ng cg qa na ca qh nh ch qf nf cf hn hF j hj a).mono ?_
      rintro e w' ⟨rfl,hb⟩
      exact ⟨by simp [opnI,hg],hb⟩
    · refine (opn_44 qg ng cg qa na ca qh nh ch qf nf cf hn hF j hj a).mono ?_
      rintro e w' ⟨rfl,hb⟩
      exact ⟨by simp [opnI,hg],hb⟩
    · refine (opn_45 qg ng cg qa na ca qh nh ch qf nf cf hn hF j hj a).mono ?_
      rintro e w' ⟨rfl,hb⟩
      exact ⟨by simp [opnI,hn],hb⟩
    · refine (opn_46 qg ng cg qa na ca qh nh ch qf nf cf hn hF j hj a).mono ?_
      rintro e w' ⟨rfl,hb⟩
      exact ⟨by simp [opnI],hb⟩
    · refine (opn_47 qg ng cg qa na ca qh nh ch qf nf cf hn hF j hj a).mono ?_
      rintro e w' ⟨rfl,hb⟩
      exact ⟨by simp [opnI],hb⟩
  · have hz:opnI ng na nh fs j op a=decide (a=0):=by
      rw [opnI,if_neg (by omega),if_neg (by omega),if_neg (by omega),if_neg (by omega),if_neg (by omega),if_neg (by omega),if_neg (by omega)]
    rw [hz]
    exact opn_ar qg ng cg qa na ca qh nh ch qf nf cf hn hF j hj a op h3
end
end Go.Proofs.Ythjkbfamkogoiaa
namespace Go.Proofs.Ythjkbfamkogoiaa
open Go Go.RowKit Go.Proofs.Mm Go.Sort
section
variable (qg:Option Addr) (ng cg:Nat) (qa:Option Addr) (na ca:Nat) (qh:Option Addr) (nh ch:Nat) (qf:Option Addr) (nf cf:Nat)
structure BxI (w:World) (m0 m1 m2 m3:Value) (op a:Int) (W:World):Prop where
  bl:Below w.heap.size w W
  m:InB W w.heap.size #[m0,m1,m2,m3] 26
  i:InB W (w.heap.size+1) #[.int .i64 op,.int .i64 a] 35
theorem BxI.new (w:World) (m0 m1 m2 m3:Value) (op a:Int):BxI w m0 m1 m2 m3 op a ((w.alloc (.cells #[m0,m1,m2,m3] 26)).alloc (.cells #[.int .i64 op,.int .i64 a] 35)) :=
  ⟨bl_al (bl_al (Below.refl _ w) _) _,(InB.new _ _ _).le (bl_al (Below.refl _ _) _),InB.new' _ _ (by simp)⟩
theorem BxI.le {w:World} {m0 m1 m2 m3:Value} {op a:Int} {W V:World} (h:BxI w m0 m1 m2 m3 op a W) (hb:Below W.heap.size W V):BxI w m0 m1 m2 m3 op a V :=
  ⟨bl_tr h.bl hb,h.m.le hb,h.i.le hb⟩
set_option maxRecDepth 100000 in
set_option maxHeartbeats 1000000 in
theorem Instr_any {lt:Bool} {fs:List FnM} (hn:fs.length=nf) {w:World} (hF:FnAt lt (wC w) qf fs) (f op a:Int):Calls Try.prog 11 #[moV qg ng cg qa na ca qh nh ch qf nf cf,.int .i64 f,inV op a] w fun e w'=>e=.returned (.int .i64 (insI ng na nh fs f op a))∧Below w.heap.size w w':=by
  have HF:=Lib.hid (fun w' (hb:Below w.heap.size w w')=>(hF.le (below_cle hb):FnAt lt (wC w') qf fs))
  have HN:=Lib.hid hn
  clear hF
  unfold insI
  rw [hn]
  clear hn
  by_cases hk:fnI nf f=false
  · rw [if_pos hk]
    go_enter Try.func11,Try.ntmps11
    go_wp2_with fail
    refine (isFn_any _ _ _ _ _ _ _ _ _ _ _ _ _ _).mono ?_
    rintro e w1 ⟨rfl,hb⟩
    have HX:=Lib.hid ((BxI.new w (.slice qg ng cg) (.slice qa na ca) (.slice qh nh ch) (.slice qf nf cf) op a).le hb)
    clear hb
    rw [hk]
    go_wp2_with fail
    go_ret
    exact ⟨rfl,HX.out.bl⟩
  · rw [if_neg hk]
    have hk1:fnI nf f=true:=by simpa using hk
    clear hk
    obtain ⟨j,rfl⟩:∃ j:Nat,f=(j:Int):=⟨f.toNat,by have:=of_decide_eq_true hk1;omega⟩
    have HJ:=Lib.hid (show j<nf from by have:=of_decide_eq_true hk1;omega)
    by_cases hk:knI op=false
    · rw [if_pos hk]
      go_enter Try.func11,Try.ntmps11
      go_wp2_with fail
      refine (isFn_any _ _ _ _ _ _ _ _ _ _ _ _ _ _).mono ?_
      rintro e w1 ⟨rfl,hb⟩
      have HX:=Lib.hid ((BxI.new w (.slice qg ng cg) (.slice qa na ca) (.slice qh nh ch) (.slice qf nf cf) op a).le hb)
      clear hb
      rw [hk1]
      have i0:=HX.out.i.cell (j:=0) rfl
      go_wp2_with fail
      refine (isKnown_any _ _).mono ?_
      rintro e w2 ⟨rfl,rfl⟩
      rw [hk]
      go_wp2_with fail
      go_ret
      exact ⟨rfl,HX.out.bl⟩
    · rw [if_neg hk]
      replace hk:knI op=true:=by simpa using hk
      by_cases ho:opnI ng na nh fs j op a=false
      · rw [if_pos ho]
        go_enter Try.func11,Try.ntmps11
        go_wp2_with fail
        refine (isFn_any _ _ _ _ _ _ _ _ _ _ _ _ _ _).mono ?_
        rintro e w1 ⟨rfl,hb⟩
        have HX:=Lib.hid ((BxI.new w (.slice qg ng cg) (.slice qa na ca) (.slice qh nh ch) (.slice qf nf cf) op a).le hb)
        clear hb
        rw [hk1]
        have i0:=HX.out.i.cell (j:=0) rfl
        go_wp2_with fail
        refine (isKnown_any _ _).mono ?_
        rintro e w2 ⟨rfl,rfl⟩
        rw [hk]
        have m0:=HX.out.m.cell (j:=0) rfl
        have m1:=HX.out.m.cell (j:=1) rfl
        have m2:=HX.out.m.cell (j:=2) rfl
        have m3:=HX.out.m.cell (j:=3) rfl
        have i1:=HX.out.i.cell (j:=1) rfl
        go_wp2_with fail
        refine (mayOperand_any _ _ _ _ _ _ _ _ _ _ _ _ HN.out (HF.out _ HX.out.bl) j HJ.out a op).mono ?_
        rintro e w3 ⟨rfl,hb⟩
        have HB:=Lib.hid (bl_tr HX.out.bl hb)
        clear hb i0 i1 m0 m1 m2 m3
        rw [ho]
        go_wp2_with fail
        go_ret
        exact ⟨rfl,HB.out⟩
      · rw [if_neg ho]
        replace ho:opnI ng na nh fs j op a=true:=by simpa using ho
        go_enter Try.func11,Try.ntmps11
        go_wp2_with fail
        refine (isFn_any _ _ _ _ _ _ _ _ _ _ _ _ _ _).mono ?_
        rintro e w1 ⟨rfl,hb⟩
        have HX:=Lib.hid ((BxI.new w (.slice qg ng cg) (.slice qa na ca) (.slice qh nh ch) (.slice qf nf cf) op a).le hb)
        clear hb
        rw [hk1]
        have i0:=HX.out.i.cell (j:=0) rfl
        go_wp2_with fail
        refine (isKnown_any _ _).mono ?_
        rintro e w2 ⟨rfl,rfl⟩
        rw [hk]
        have m0:=HX.out.m.cell (j:=0) rfl
        have m1:=HX.out.m.cell (j:=1) rfl
        have m2:=HX.out.m.cell (j:=2) rfl
        have m3:=HX.out.m.cell (j:=3) rfl
        have i1:=HX.out.i.cell (j:=1) rfl
        go_wp2_with fail
        refine (mayOperand_any _ _ _ _ _ _ _ _ _ _ _ _ HN.out (HF.out _ HX.out.bl) j HJ.out a op).mono ?_
        rintro e w3 ⟨rfl,hb⟩
        have HB:=Lib.hid (bl_tr HX.out.bl hb)
        clear hb i0 i1 m0 m1 m2 m3
        rw [ho]
        go_wp2_with fail
        go_ret
        exact ⟨rfl,HB.out⟩
theorem ins_room {ng na nh:Nat} {fs:List FnM} {j:Nat} (hj:j<fs.length) (op a:Int) :
    insI ng na nh fs j op a=if rooI ng na nh fs j op=-2 then 100 else if 0≤rooI ng na nh fs j op∧(a<0 ∨ rooI ng na nh fs j op≤a) then 130 else 0:=by
  have hl:0≤locI fs j:=by rw [locI_yes hj];omega
  unfold insI
  rw [if_neg (by rw [show fnI fs.length (j:Int)=true from decide_eq_true (by omega)];simp)]
  by_cases h:1≤op∧op≤17
  · have e1:rooI ng na nh fs j op=1:=by rw [rooI,if_pos h]
    have e2:knI op=true:=by simp [knI,h]
    have e3:opnI ng na nh fs j op a=decide (a=0):=by
      rw [opnI,if_neg (by omega),if_neg (by omega),if_neg (by omega),if_neg (by omega),if_neg (by omega),if_neg (by omega),if_neg (by omega)]
    rw [e1,e2,e3]
    by_cases ha:a=0
    · rw [if_neg (by simp),if_neg (by simp [ha]),if_neg (by omega),if_neg (by omega)]
    · rw [if_neg (by simp),if_pos (by simp [ha]),if_neg (by omega),if_pos (by omega)]
  · by_cases h3:32≤op∧op≤47
    · have e2:knI op=true:=by unfold knI;simp only [Bool.or_eq_true,decide_eq_true_eq];omega
      rw [e2,if_neg (by simp)]
      have e1:op=32 ∨ op=33 ∨ op=34 ∨ op=35 ∨ op=36 ∨ op=37 ∨ op=38 ∨ op=39 ∨ op=40 ∨ op=41 ∨ op=42 ∨ op=43 ∨ op=44 ∨ op=45 ∨ op=46 ∨ op=47:=by omega
      have key:∀ n:Int,0≤n→(if blI a n=false then (130:Int) else 0)=if n=-2 then 100 else if 0≤n∧(a<0 ∨ n≤a) then 130 else 0:=fun n hn=>by
        rw [if_neg (show ¬ n=-2 by omega)]
        by_cases hb:0≤a∧a<n
        · rw [if_neg (by simp [blI,hb]),if_neg (by omega)]
        · rw [if_pos (by unfold blI;exact decide_eq_false hb),if_pos (by omega)]
      have key0:(if (decide (a=0))=false then (130:Int) else 0)=if (1:Int)=-2 then 100 else if 0≤(1:Int)∧(a<0 ∨ 1≤a) then 130 else 0:=by
        by_cases ha:a=0
        · rw [if_neg (by simp [ha]),if_neg (by omega),if_neg (by omega)]
        · rw [if_pos (by simp [ha]),if_neg (by omega),if_pos (by omega)]
      rcases e1 with rfl | rfl | rfl | rfl | rfl | rfl | rfl | rfl | rfl | rfl | rfl | rfl | rfl | rfl | rfl | rfl
      · simp [opnI,rooI]
      · exact key _ hl
      · exact key _ hl
      · exact key _ (by omega)
      · exact key _ (by omega)
      · exact key _ (by omega)
      · exact key _ (by omega)
      · exact key0
      · exact key0
      · exact key0
      · exact key0
      · exact key _ (by omega)
      · exact key _ (by omega)
      · exact key _ (by omega)
      · exact key0
      · exact key _ (by omega)
    · have hz:rooI ng na nh fs j op=-2:=by
        rw [rooI,if_neg h,if_neg (by omega),if_neg (by omega),if_neg (by omega),if_neg (by omega),if_neg (by omega),if_neg (by omega),if_neg (by omega),if_neg (by omega)]
      have e2:knI op=false:=by unfold knI;simp only [Bool.or_eq_false_iff,decide_eq_false_iff_not];exact ⟨h,h3⟩
      rw [e2,hz]
      rfl
set_option maxRecDepth 100000 in
set_option maxHeartbeats 1000000 in
theorem refInstr_any {lt:Bool} {fs:List FnM} (hn:fs.length=nf) {w:World} (hF:FnAt lt (wC w) qf fs) (f op a:Int):Calls Try.prog 12 #[moV qg ng cg qa na ca qh nh ch qf nf cf,.int .i64 f,inV op a] w fun e w'=>e=.returned (.int .i64 (insI ng na nh fs f op a))∧Below w.heap.size w w':=by
  have HF:=Lib.hid (fun w' (hb:Below w.heap.size w w')=>(hF.le (below_cle hb):FnAt lt (wC w') qf fs))
  have HN:=Lib.hid hn
  clear hF
  by_cases h0:f<0
  · have e:insI ng na nh fs f op a=1:=by rw [insI,if_pos (show fnI fs.length f=false from decide_eq_false (by omega))]
    rw [e]
    clear e hn
    go_enter Try.func12,Try.ntmps12
    go_wp2_with fail
    go_ret
    exact ⟨rfl,bl_al (bl_al (Below.refl _ w) _) _⟩
  · by_cases h1:f ≥ (nf:Int)
    · have e:insI ng na nh fs f op a=1:=by rw [insI,if_pos (show fnI fs.length f=false from decide_eq_false (by omega))]
      rw [e]
      clear e hn
      go_enter Try.func12,Try.ntmps12
      go_wp2_with fail
      go_ret
      exact ⟨rfl,bl_al (bl_al (Below.refl _ w) _) _⟩
    · obtain ⟨j,rfl⟩:∃ j:Nat,f=(j:Int):=⟨f.toNat,by omega⟩
      have HJ:=Lib.hid (show j<nf by omega)
      rw [ins_room (by omega)]
      obtain ⟨n,hnn⟩:∃ n,rooI ng na nh fs j op=n:=⟨_,rfl⟩
      rw [hnn]
      have HNN:=Lib.hid hnn
      clear hn hnn
      by_cases k0:n=-2
      · subst k0
        rw [if_pos rfl]
        go_enter Try.func12,Try.ntmps12
        go_wp2_with fail
        refine (room_any _ _ _ _ _ _ _ _ _ _ _ _ HN.out (HF.out _ (bl_al (bl_al (Below.refl _ w) _) _)) j HJ.out op).mono ?_
        rintro e w1 ⟨rfl,hb⟩
        rw [HNN.out]
        have HX:=Lib.hid ((BxI.new w (.slice qg ng cg) (.slice qa na ca) (.slice qh nh ch) (.slice qf nf cf) op a).le hb)
        have HB:=Lib.hid HX.out.bl
        clear hb
        go_wp2_with fail
        go_ret
        exact ⟨rfl,HB.out⟩
      · rw [if_neg k0]
        have kk:(n == -2)=false:=eqb k0
        clear k0
        by_cases k1:n ≥ 0
        · by_cases k2:a<0
          · rw [if_pos ⟨k1,.inl k2⟩]
            go_enter Try.func12,Try.ntmps12
            go_wp2_with fail
            refine (room_any _ _ _ _ _ _ _ _ _ _ _ _ HN.out (HF.out _ (bl_al (bl_al (Below.refl _ w) _) _)) j HJ.out op).mono ?_
            rintro e w1 ⟨rfl,hb⟩
            rw [HNN.out]
            have HX:=Lib.hid ((BxI.new w (.slice qg ng cg) (.slice qa na ca) (.slice qh nh ch) (.slice qf nf cf) op a).le hb)
            have HB:=Lib.hid HX.out.bl
            clear hb
            have i1:=HX.out.i.cell (j:=1) rfl
            go_wp2_with fail
            go_ret
            exact ⟨rfl,HB.out⟩
          · by_cases k3:a ≥ n
            · rw [if_pos ⟨k1,.inr k3⟩]
              go_enter Try.func12,Try.ntmps12
              go_wp2_with fail
              refine (room_any _ _ _ _ _ _ _ _ _ _ _ _ HN.out (HF.out _ (bl_al (bl_al (Below.refl _ w) _) _)) j HJ.out op).mono ?_
              rintro e w1 ⟨rfl,hb⟩
              rw [HNN.out]
              have HX:=Lib.hid ((BxI.new w (.slice qg ng cg) (.slice qa na ca) (.slice qh nh ch) (.slice qf nf cf) op a).le hb)
              have HB:=Lib.hid HX.out.bl
              clear hb
              have i1:=HX.out.i.cell (j:=1) rfl
              go_wp2_with fail
              go_ret
              exact ⟨rfl,HB.out⟩
            · rw [if_neg (by omega)]
              go_enter Try.func12,Try.ntmps12
              go_wp2_with fail
              refine (room_any _ _ _ _ _ _ _ _ _ _ _ _ HN.out (HF.out _ (bl_al (bl_al (Below.refl _ w) _) _)) j HJ.out op).mono ?_
              rintro e w1 ⟨rfl,hb⟩
              rw [HNN.out]
              have HX:=Lib.hid ((BxI.new w (.slice qg ng cg) (.slice qa na ca) (.slice qh nh ch) (.slice qf nf cf) op a).le hb)
              have HB:=Lib.hid HX.out.bl
              clear hb
              have i1:=HX.out.i.cell (j:=1) rfl
              go_wp2_with fail
              go_ret
              exact ⟨rfl,HB.out⟩
        · rw [if_neg (by omega)]
          go_enter Try.func12,Try.ntmps12
          go_wp2_with fail
          refine (room_any _ _ _ _ _ _ _ _ _ _ _ _ HN.out (HF.out _ (bl_al (bl_al (Below.refl _ w) _) _)) j HJ.out op).mono ?_
          rintro e w1 ⟨rfl,hb⟩
          rw [HNN.out]
          have HX:=Lib.hid ((BxI.new w (.slice qg ng cg) (.slice qa na ca) (.slice qh nh ch) (.slice qf nf cf) op a).le hb)
          have HB:=Lib.hid HX.out.bl
          clear hb
          go_wp2_with fail
          go_ret
          exact ⟨rfl,HB.out⟩
end
end Go.Proofs.Ythjkbfamkogoiaa
namespace Go.Proofs.Ythjkbfamkogoiaa
open Go Go.RowKit Go.Proofs.Mm Go.Sort
theorem mo_open {lt:Bool} {C:Cl} {v:Value} {m:MoM} (h:MoR lt C v m):∃ qg cg qa ca qh ch qf cf,v=moV qg m.globals.length cg qa m.arrays.length ca qh m.channels.length ch qf m.funcs.length cf∧ArAt C qa m.arrays∧FnAt lt C qf m.funcs ∧
    m.globals.length≤140737488351232∧m.arrays.length≤140737488351232∧m.channels.length≤140737488351232∧m.funcs.length≤140737488351232:=by
  obtain ⟨v1,v2,v3,v4,rfl,h1,h2,h3,h4⟩:=h
  have b1:=slx_bytes h1
  have b2:=slx_bytes h2
  have b3:=slx_bytes h3
  have b4:=slx_bytes h4
  obtain ⟨q1,c1,rfl⟩:=slx_shape h1
  obtain ⟨q2,c2,rfl⟩:=slx_shape h2
  obtain ⟨q3,c3,rfl⟩:=slx_shape h3
  obtain ⟨q4,c4,rfl⟩:=slx_shape h4
  exact ⟨q1,c1,q2,c2,q3,c3,q4,c4,rfl,h2.cells,h4.cells,by omega,by omega,by omega,by omega⟩
structure TwoM (w:World) (b1 b2:Nat) (m:MoM) (q1:Option Addr) (c1:Nat) (q2:Option Addr) (c2:Nat) (q3:Option Addr) (c3:Nat) (q4:Option Addr) (c4:Nat) (p1:Option Addr) (d1:Nat) (p2:Option Addr) (d2:Nat) (p3:Option Addr) (d3:Nat) (p4:Option Addr) (d4:Nat) (W:World):Prop where
  bl:Below w.heap.size w W
  x:InB W b1 #[.slice q1 m.globals.length c1,.slice q2 m.arrays.length c2,.slice q3 m.channels.length c3,.slice q4 m.funcs.length c4] 26
  y:InB W b2 #[.slice p1 m.globals.length d1,.slice p2 m.arrays.length d2,.slice p3 m.channels.length d3,.slice p4 m.funcs.length d4] 26
  fx:FnAt false (wC W) q4 m.funcs
  fy:FnAt true (wC W) p4 m.funcs
  ax:ArAt (wC W) q2 m.arrays
  ay:ArAt (wC W) p2 m.arrays
  mx:MoR false (wC W) (moV q1 m.globals.length c1 q2 m.arrays.length c2 q3 m.channels.length c3 q4 m.funcs.length c4) m
  my:MoR true (wC W) (moV p1 m.globals.length d1 p2 m.arrays.length d2 p3 m.channels.length d3 p4 m.funcs.length d4) m
theorem ArAt.le {C D:Cl} {q:Option Addr} {l:List (Int × Int)} (h:ArAt C q l) (hc:CLe C D):ArAt D q l:=fun j hj=>by
  obtain ⟨g,o,e,a,b⟩:=h j hj
  exact ⟨g,o,e,hc _ _ a,hc _ _ b⟩
theorem MoR.le {lt:Bool} {C D:Cl} {v:Value} {m:MoM} (h:MoR lt C v m) (hc:CLe C D):MoR lt D v m:=by
  obtain ⟨v1,v2,v3,v4,e,h1,h2,h3,h4⟩:=h
  exact ⟨v1,v2,v3,v4,e,h1.le hc,h2.le hc,h3.le hc,h4.le hc⟩
theorem mo_parts {lt:Bool} {C:Cl} {m:MoM} {q1:Option Addr} {n1 c1:Nat} {q2:Option Addr} {n2 c2:Nat} {q3:Option Addr} {n3 c3:Nat} {q4:Option Addr} {n4 c4:Nat} (h:MoR lt C (moV q1 n1 c1 q2 n2 c2 q3 n3 c3 q4 n4 c4) m):ArAt C q2 m.arrays∧FnAt lt C q4 m.funcs:=by
  obtain ⟨v1,v2,v3,v4,e,h1,h2,h3,h4⟩:=h
  injection e with e
  obtain ⟨rfl,rfl,rfl,rfl⟩:Value.slice q1 n1 c1=v1∧Value.slice q2 n2 c2=v2∧Value.slice q3 n3 c3=v3∧Value.slice q4 n4 c4=v4:=by simpa using e
  exact ⟨h2.cells,h4.cells⟩
section
variable {w:World} {b1 b2:Nat} {m:MoM} {q1:Option Addr} {c1:Nat} {q2:Option Addr} {c2:Nat} {q3:Option Addr} {c3:Nat} {q4:Option Addr} {c4:Nat} {p1:Option Addr} {d1:Nat} {p2:Option Addr} {d2:Nat} {p3:Option Addr} {d3:Nat} {p4:Option Addr} {d4:Nat}
theorem TwoM.le {W V:World} (h:TwoM w b1 b2 m q1 c1 q2 c2 q3 c3 q4 c4 p1 d1 p2 d2 p3 d3 p4 d4 W) (hb:Below W.heap.size W V):TwoM w b1 b2 m q1 c1 q2 c2 q3 c3 q4 c4 p1 d1 p2 d2 p3 d3 p4 d4 V :=
  ⟨bl_tr h.bl hb,h.x.le hb,h.y.le hb,h.fx.le (below_cle hb),h.fy.le (below_cle hb),h.ax.le (below_cle hb),h.ay.le (below_cle hb),h.mx.le (below_cle hb),h.my.le (below_cle hb)⟩
end
end Go.Proofs.Ythjkbfamkogoiaa
