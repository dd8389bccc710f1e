/- A part of the proof of PrintBack: contracts and plain facts. -/
import Derived.Test.YtpcniebkabkikaaGreatDoorPBqR24
import Derived.Deep.Cut
import Derived.BigRegion
set_option maxRecDepth 100000
set_option maxHeartbeats 8000000
open Go.Lib (hid)
open Go.Proofs.Tryz
namespace Go.Proofs.YtpcniebkabkikaaGreatDoor
open Go Go.RowKit Go.Proofs.Mm
structure SoS (m:Mem) (s:Syn.So) (q1:Option Addr) (c1:Nat) (q2:Option Addr) (c2:Nat) (q3:Option Addr) (c3:Nat) (q4:Option Addr) (c4:Nat) (q5:Option Addr) (c5:Nat):Prop where
 p:RowM m 9 1 (.slice q1 s.principals.length c1) s.principals.length (strC s.principals)
 g:∃cs,RowM m 59 2 (.slice q2 s.globals.length c2) s.globals.length cs∧Enc (DeR m) cs s.globals
 a:∃cs,RowM m 72 3 (.slice q3 s.arrays.length c3) s.arrays.length cs∧Enc (ArR m) cs s.arrays
 c:∃cs,RowM m 59 2 (.slice q4 s.channels.length c4) s.channels.length cs∧Enc (DeR m) cs s.channels
 f:∃cs,RowM m 54 6 (.slice q5 s.funcs.length c5) s.funcs.length cs∧Enc (FnM m) cs s.funcs
theorem SoM.rows {m:Mem} {s:Syn.So} {q1 c1 q2 c2 q3 c3 q4 c4 q5 c5} (h:SoM m [.slice q1 s.principals.length c1,.slice q2 s.globals.length c2,.slice q3 s.arrays.length c3,.slice q4 s.channels.length c4,.slice q5 s.funcs.length c5] s):SoS m s q1 c1 q2 c2 q3 c3 q4 c4 q5 c5:=by
 obtain ⟨p',a',b',d',e',h,h0,h1,h2,h3,h4⟩:=h
 simp only [List.cons.injEq,and_true] at h
 obtain ⟨rfl,rfl,rfl,rfl,rfl⟩:=h
 exact ⟨h0,h1,h2,h3,h4⟩
theorem heapD {w:World} {k:Nat} {o:Obj} (h:w.heap[k]?=some o) (n:Nat):(w.drewN n).heap[k]?=some o:=h
end Go.Proofs.YtpcniebkabkikaaGreatDoor
