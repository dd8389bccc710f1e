/- What has been read lies in memory as it can be printed. A source that has been read can be printed. source of package print, with principals or without. (Written by a program.) source of package print, with principals or without. (Written by a program.) String of the writer's builder. Source of package print. The source that one knows: it is read, and printed again. The statements' own small calls -/
import Derived.Test.YtpcniebkabkikaaGreatDoorPKpR13
import Derived.Test.YtpcniebkabkikaaGreatDoorPKpR23
import Derived.Test.YtpcniebkabkikaaGreatDoorPKpR12
import Derived.Test.YtpcniebkabkikaaGreatDoorPKpR11
import Derived.Test.YtpcniebkabkikaaGreatDoorPKpR7
import Derived.Shelf.Strings.BuilderK
namespace Go.Proofs.YtpcniebkabkikaaGreatDoor
open Go Go.RowKit Go.Proofs.Mm
def tmOf (t : Syn.Tm) : TmZ := ⟨(t.kind : Int),(t.value : Int),sb t.name⟩
def stOf (s : Syn.St) : StZ := ⟨(s.kind : Int),sb s.name,s.targets.map sb,s.exprs.map fun e => e.map tmOf⟩
def deOf (d : Syn.De) : DeZ := ⟨sb d.name,d.label⟩
def arOf (a : Syn.Ar) : ArZ := ⟨sb a.name,(a.len : Int),a.label⟩
def fnOf (f : Syn.Fn) : FnZ := ⟨sb f.name,f.level,f.params.map deOf,f.results,f.vars.map deOf,f.body.map stOf⟩
def soOf (s : Syn.So) : SoZ := ⟨s.principals.map sb,s.globals.map deOf,s.arrays.map arOf,s.channels.map deOf,s.funcs.map fnOf⟩
def ExFit (e : List Syn.Tm) : Prop := e.length ≤ 2097152 ∧ ∀ t ∈ e,t.name.length ≤ 140737488355327 ∧ t.value ≤ 9223372036854775807
def StFit (s : Syn.St) : Prop := s.name.length ≤ 140737488355327 ∧ (∀ x ∈ s.targets,x.length ≤ 140737488355327) ∧ ∀ e ∈ s.exprs,ExFit e
def FnFit (f : Syn.Fn) : Prop := f.name.length ≤ 140737488355327 ∧ (∀ d ∈ f.params,d.name.length ≤ 140737488355327) ∧ (∀ d ∈ f.vars,d.name.length ≤ 140737488355327) ∧ (∀ s ∈ f.body,StFit s) ∧ f.body.length ≤ 2199023255552
def SoFit (s : Syn.So) : Prop := (∀ x ∈ s.principals,x.length ≤ 140737488355327) ∧ (∀ d ∈ s.globals,d.name.length ≤ 140737488355327) ∧ (∀ a ∈ s.arrays,a.name.length ≤ 140737488355327 ∧ a.len ≤ 9223372036854775807) ∧ (∀ d ∈ s.channels,d.name.length ≤ 140737488355327) ∧ ∀ f ∈ s.funcs,FnFit f
theorem rdC {α : Type} {R : List Value → α → Prop} {size : Nat} {C : Cl} {q : Option Addr} {cs : List Value} {l : List α} (hR : ∀ c x,R c x → c.length = size) (h : RdO C q cs) (he : Enc R cs l) (j : Nat) (hj : j < l.length) (hs : 0 < size) :
    ∃ g o c,q = some ⟨g,o,none⟩ ∧ R c l[j] ∧ ∀ r u,r < size → c[r]? = some u → C ⟨g,o + j * size + r,none⟩ = some u := by
  obtain ⟨hl,ha⟩ := encZ_at hR he
  obtain ⟨c,h1,h2⟩ := ha j hj
  have hc := hR _ _ h1
  rcases h with h | ⟨g,o,hg,h3⟩
  · subst h
    have := h2 0 hs
    rw [List.getElem?_eq_getElem (show 0 < c.length by omega)] at this
    simp at this
  · exact ⟨g,o,c,hg,h1,fun r u hr hu => by rw [Nat.add_assoc]; exact h3 _ _ (by rw [h2 r hr]; exact hu)⟩
section
variable {m : Mem} {q : Option Addr} {c : Nat}
theorem str_rowM {l : List (List Nat)} {n : Nat} (h : RowM m 9 1 (.slice q n c) n (strC l)) : StrRow (mC m) q (l.map sb) := by
  intro j hj
  have hj' : j < l.length := by simpa using hj
  obtain ⟨g,o,c,h1,rfl,h2⟩ := rdC (size := 1) (fun c x e => by rw [e]; rfl) (RowM.rdO h) (enc_str l) j hj' (by decide)
  refine ⟨g,o,h1,?_⟩
  have := h2 0 _ (by decide) rfl
  rw [List.getElem_map]
  simpa using this
theorem de_rowM {l : List Syn.De} {n : Nat} {cs : List Value} (h : RowM m 59 2 (.slice q n c) n cs) (he : Enc (DeR m) cs l) : DeRow (mC m) q (l.map deOf) ∧ ∀ d ∈ l,d.label < 18446744073709551616 := by
  constructor
  · intro j hj
    have hj' : j < l.length := by simpa using hj
    obtain ⟨g,o,c,h1,⟨rfl,_⟩,h2⟩ := rdC (size := 2) (fun c x e => by rw [e.1]; rfl) (RowM.rdO h) he j hj' (by decide)
    rw [List.getElem_map]
    exact ⟨g,o,h1,h2 0 _ (by decide) rfl,h2 1 _ (by decide) rfl⟩
  · intro d hd
    obtain ⟨j,hj,rfl⟩ := List.getElem_of_mem hd
    obtain ⟨g,o,c,_,⟨_,hl⟩,_⟩ := rdC (size := 2) (fun c x e => by rw [e.1]; rfl) (RowM.rdO h) he j hj (by decide)
    exact hl
theorem la_rowM {l : List Nat} {n : Nat} {cs : List Value} (h : RowM m 50 1 (.slice q n c) n cs) (he : Enc (LaR m) cs l) : LaRow (mC m) q l ∧ ∀ d ∈ l,d < 18446744073709551616 := by
  constructor
  · intro j hj
    obtain ⟨g,o,c,h1,⟨rfl,_⟩,h2⟩ := rdC (size := 1) (fun c x e => by rw [e.1]; rfl) (RowM.rdO h) he j hj (by decide)
    refine ⟨g,o,h1,?_⟩
    have := h2 0 _ (by decide) rfl
    simpa using this
  · intro d hd
    obtain ⟨j,hj,rfl⟩ := List.getElem_of_mem hd
    obtain ⟨g,o,c,_,⟨_,hl⟩,_⟩ := rdC (size := 1) (fun c x e => by rw [e.1]; rfl) (RowM.rdO h) he j hj (by decide)
    exact hl
theorem ar_rowM {l : List Syn.Ar} {n : Nat} {cs : List Value} (h : RowM m 72 3 (.slice q n c) n cs) (he : Enc (ArR m) cs l) : ArRow (mC m) q (l.map arOf) ∧ ∀ d ∈ l,d.label < 18446744073709551616 := by
  constructor
  · intro j hj
    have hj' : j < l.length := by simpa using hj
    obtain ⟨g,o,c,h1,⟨rfl,_⟩,h2⟩ := rdC (size := 3) (fun c x e => by rw [e.1]; rfl) (RowM.rdO h) he j hj' (by decide)
    rw [List.getElem_map]
    exact ⟨g,o,h1,h2 0 _ (by decide) rfl,h2 1 _ (by decide) rfl,h2 2 _ (by decide) rfl⟩
  · intro d hd
    obtain ⟨j,hj,rfl⟩ := List.getElem_of_mem hd
    obtain ⟨g,o,c,_,⟨_,hl⟩,_⟩ := rdC (size := 3) (fun c x e => by rw [e.1]; rfl) (RowM.rdO h) he j hj (by decide)
    exact hl
theorem enc_tm : ∀ l : List Syn.Tm,Enc (fun c t => c = tmC t) (tmCells l) l
  | [] => rfl
  | t :: l => ⟨tmC t,tmCells l,by rw [show t :: l = [t] ++ l from rfl,tmCells_app,tmCells_one],rfl,enc_tm l⟩
theorem tm_rowM {l : List Syn.Tm} {v : Value} (h : TmM m v l) : ∃ qe ce,v = .slice qe (l.map tmOf).length ce ∧ TmRow (mC m) qe (l.map tmOf) ∧ ce ≤ maxLen ∧ (l.map tmOf).length ≤ ce := by
  obtain ⟨qe,ce,rfl⟩ := rowM_shape h
  refine ⟨qe,ce,by rw [List.length_map],fun j hj => ?_,?_,?_⟩
  · have hj' : j < l.length := by simpa using hj
    obtain ⟨g,o,c,h1,rfl,h2⟩ := rdC (size := 3) (fun c x e => by rw [e]; rfl) (RowM.rdO h) (enc_tm l) j hj' (by decide)
    rw [List.getElem_map]
    exact ⟨g,o,h1,h2 0 _ (by decide) rfl,h2 1 _ (by decide) rfl,h2 2 _ (by decide) rfl⟩
  · rcases h.2 with ⟨e,_⟩ | ⟨g,cap,cur,e,_,_,hc,_⟩
    · injection e with _ _ e; rw [e]; exact Nat.zero_le _
    · injection e with _ _ e; rw [e]; exact hc
  · rw [List.length_map]
    rcases h.2 with ⟨e,h0⟩ | ⟨g,cap,cur,e,_,hc,_⟩
    · injection e with _ _ e; omega
    · injection e with _ _ e; rw [e]; exact hc
theorem ex_rowM {l : List (List Syn.Tm)} {v : Value} (h : ExM m v l) : ∃ q c vs,v = .slice q (l.map fun e => e.map tmOf).length c ∧ ExRow (mC m) q (l.map fun e => e.map tmOf) vs := by
  obtain ⟨cs,h1,h2⟩ := h
  obtain ⟨q,c,rfl⟩ := rowM_shape h1
  have hlen := tm_single h2
  have hrd := (RowM.rdO h1)
  obtain ⟨_,hat⟩ := encZ_at (size := 1) (fun c x ⟨u,e,_⟩ => by rw [e]; rfl) h2
  refine ⟨q,c,cs,by rw [List.length_map],⟨by rw [List.length_map]; exact hlen,fun j hj => ?_,fun j hj hj' => ?_⟩⟩
  · rcases hrd with h | ⟨g,o,e,h3⟩
    · subst h; exact absurd hj (by simp)
    · exact ⟨g,o,e,h3 j _ (List.getElem?_eq_getElem hj)⟩
  · have hj2 : j < l.length := by simpa using hj'
    obtain ⟨c',⟨u,rfl,hu⟩,h4⟩ := hat j hj2
    have h5 := h4 0 (by decide)
    rw [Nat.mul_one,Nat.add_zero,List.getElem?_eq_getElem hj] at h5
    have h6 : cs[j] = u := by simpa using h5
    obtain ⟨qe,ce,e1,e2,e3,e4⟩ := tm_rowM hu
    rw [h6,List.getElem_map]
    exact ⟨qe,ce,e1,e2,e3,e4⟩
end
end Go.Proofs.YtpcniebkabkikaaGreatDoor
namespace Go.Proofs.YtpcniebkabkikaaGreatDoor
open Go Go.RowKit Go.Proofs.Mm
theorem size_sb (l : List Nat) : (sb l).size = l.length := sb_size l
theorem list_each {β : Type} : ∀ {n : Nat} {P : (j : Nat) → j < n → β → Prop},(∀ j (hj : j < n),∃ x,P j hj x) → ∃ l : List β,l.length = n ∧ ∀ j (hj : j < n) (h : j < l.length),P j hj l[j]
  | 0,_,_ => ⟨[],rfl,fun j hj => absurd hj (by omega)⟩
  | n + 1,P,h => by
    obtain ⟨l,h1,h2⟩ := list_each (n := n) (P := fun j hj x => P j (by omega) x) (fun j hj => h j (by omega))
    obtain ⟨x,hx⟩ := h n (by omega)
    refine ⟨l ++ [x],by rw [List.length_append,h1]; rfl,fun j hj hl => ?_⟩
    by_cases e : j < n
    · rw [List.getElem_append_left (by omega)]
      exact h2 j e (by omega)
    · obtain rfl : j = n := by omega
      have : (l ++ [x])[l.length]'(by simp) = x := by simp
      subst h1
      rw [this]; exact hx
section
variable {m : Mem}
theorem st_SR {c : List Value} {s : Syn.St} (h : StM m c s) (hf : StFit s) : ∃ q1 c1 q2 c2,c = [.int .i64 (s.kind : Int),.string (sb s.name),.slice q1 s.targets.length c1,.slice q2 s.exprs.length c2] ∧ SR (mC m) (stOf s) q1 q2 := by
  obtain ⟨vt,ve,rfl,h1,h2⟩ := h
  obtain ⟨q1,c1,rfl⟩ := rowM_shape h1
  obtain ⟨q2,c2,vs,e2,hx⟩ := ex_rowM h2
  rw [List.length_map] at e2
  subst e2
  have hm1 := row_max h1
  obtain ⟨cs,hr,_⟩ := h2
  have hm2 := row_max hr
  refine ⟨q1,c1,q2,c2,rfl,?_,⟨vs,hx⟩,?_⟩
  · exact str_rowM h1
  · refine ⟨by show (sb s.name).size ≤ _; rw [size_sb]; exact hf.1,?_,?_,?_,?_⟩
    · intro x hx
      obtain ⟨y,hy,rfl⟩ := List.mem_map.1 hx
      rw [size_sb]; exact hf.2.1 y hy
    · intro e he
      obtain ⟨y,hy,rfl⟩ := List.mem_map.1 he
      have h3 := hf.2.2 y hy
      refine ⟨by rw [List.length_map]; exact h3.1,fun t ht => ?_⟩
      obtain ⟨z,hz,rfl⟩ := List.mem_map.1 ht
      have h4 := h3.2 z hz
      exact ⟨by show (sb z.name).size ≤ _; rw [size_sb]; exact h4.1,by show ((z.value : Nat) : Int) ≤ _; omega⟩
    · show (s.targets.map sb).length ≤ _; rw [List.length_map]; exact hm1
    · show (s.exprs.map _).length ≤ _; rw [List.length_map]; exact hm2
theorem bd_rowM {l : List Syn.St} {q : Option Addr} {c n : Nat} {cs : List Value} (h : RowM m 57 4 (.slice q n c) n cs) (he : Enc (StM m) cs l) (hf : ∀ s ∈ l,StFit s) (hl : l.length ≤ 2199023255552) : ∃ lv,BdRow (mC m) q (l.map stOf) lv := by
  have hrd := (RowM.rdO h)
  have hstl : ∀ (c : List Value) (x : Syn.St),StM m c x → c.length = 4 := fun c x ⟨_,_,e,_⟩ => by rw [e]; rfl
  have key : ∀ j (hj : j < l.length),∃ x : StV,(∃ g o,q = some ⟨g,o,none⟩ ∧ mC m ⟨g,o + j * 4,none⟩ = some (.int .i64 x.k) ∧ mC m ⟨g,o + j * 4 + 1,none⟩ = some (.string x.nm) ∧ mC m ⟨g,o + j * 4 + 2,none⟩ = some (.slice x.q1 x.n1 x.c1) ∧ mC m ⟨g,o + j * 4 + 3,none⟩ = some (.slice x.q2 x.n2 x.c2)) ∧ ∃ q1 c1 q2 c2,x = ⟨(stOf l[j]).kind,(stOf l[j]).name,q1,(stOf l[j]).targets.length,c1,q2,(stOf l[j]).exprs.length,c2⟩ ∧ SR (mC m) (stOf l[j]) q1 q2 := by
    intro j hj
    obtain ⟨g,o,c,h1,h2,h3⟩ := rdC (size := 4) hstl hrd he j hj (by decide)
    obtain ⟨q1,c1,q2,c2,rfl,hsr⟩ := st_SR h2 (hf _ (List.getElem_mem hj))
    have e1 : (stOf l[j]).targets.length = l[j].targets.length := List.length_map ..
    have e2 : (stOf l[j]).exprs.length = l[j].exprs.length := List.length_map ..
    refine ⟨⟨(stOf l[j]).kind,(stOf l[j]).name,q1,(stOf l[j]).targets.length,c1,q2,(stOf l[j]).exprs.length,c2⟩,⟨g,o,h1,h3 0 _ (by decide) rfl,h3 1 _ (by decide) rfl,?_,?_⟩,q1,c1,q2,c2,rfl,hsr⟩
    · rw [e1]; exact h3 2 _ (by decide) rfl
    · rw [e2]; exact h3 3 _ (by decide) rfl
  obtain ⟨lv,hlen,hlv⟩ := list_each key
  refine ⟨lv,⟨by rw [List.length_map]; exact hlen,fun j hj => ?_,fun j hj hj' => ?_,by rw [List.length_map]; exact hl⟩⟩
  · exact (hlv j (by omega) hj).1
  · obtain ⟨q1,c1,q2,c2,e1,e2⟩ := (hlv j (by omega) hj).2
    rw [List.getElem_map]
    exact ⟨q1,c1,q2,c2,e1,e2⟩
theorem fn_FR {c : List Value} {f : Syn.Fn} (h : FnM m c f) (hf : FnFit f) : ∃ q1 c1 q2 c2 q3 c3 q4 c4,c = [.string (sb f.name),.int .u64 (f.level : Nat),.slice q1 f.params.length c1,.slice q2 f.results.length c2,.slice q3 f.vars.length c3,.slice q4 f.body.length c4] ∧ FR (mC m) (fnOf f) q1 q2 q3 q4 := by
  obtain ⟨a,b,d,e,rfl,hl,⟨c1,p1,e1⟩,⟨c2,p2,e2⟩,⟨c3,p3,e3⟩,⟨c4,p4,e4⟩⟩ := h
  obtain ⟨q1,d1,rfl⟩ := rowM_shape p1
  obtain ⟨q2,d2,rfl⟩ := rowM_shape p2
  obtain ⟨q3,d3,rfl⟩ := rowM_shape p3
  obtain ⟨q4,d4,rfl⟩ := rowM_shape p4
  have h1 := de_rowM p1 e1
  have h2 := la_rowM p2 e2
  have h3 := de_rowM p3 e3
  have m1 := row_max p1
  have m2 := row_max p2
  have m3 := row_max p3
  have hde : ∀ {l : List Syn.De},(∀ d ∈ l,d.label < 18446744073709551616) → (∀ d ∈ l,d.name.length ≤ 140737488355327) → ∀ d ∈ l.map deOf,DeF d := by
    intro l ha hb d hd
    obtain ⟨y,hy,rfl⟩ := List.mem_map.1 hd
    exact ⟨ha y hy,by show (sb y.name).size ≤ _; rw [size_sb]; exact hb y hy⟩
  refine ⟨q1,d1,q2,d2,q3,d3,q4,d4,rfl,⟨⟨by show (sb f.name).size ≤ _; rw [size_sb]; exact hf.1,hl,⟨hde h1.2 hf.2.1,by show (f.params.map _).length ≤ _; rw [List.length_map]; exact m1⟩,⟨h2.2,m2⟩,⟨hde h3.2 hf.2.2.1,by show (f.vars.map _).length ≤ _; rw [List.length_map]; exact m3⟩⟩,h1.1,h2.1,h3.1,bd_rowM p4 e4 hf.2.2.2.1 hf.2.2.2.2⟩⟩
theorem fn_rowM {l : List Syn.Fn} {q : Option Addr} {c n : Nat} {cs : List Value} (h : RowM m 54 6 (.slice q n c) n cs) (he : Enc (FnM m) cs l) (hf : ∀ s ∈ l,FnFit s) : ∃ lv,FnRow (mC m) q (l.map fnOf) lv := by
  have hrd := (RowM.rdO h)
  have hstl : ∀ (c : List Value) (x : Syn.Fn),FnM m c x → c.length = 6 := fun c x ⟨_,_,_,_,e,_⟩ => by rw [e]; rfl
  have key : ∀ j (hj : j < l.length),∃ x : FnV,(∃ g o,q = some ⟨g,o,none⟩ ∧ mC m ⟨g,o + j * 6,none⟩ = some (.string x.nm) ∧ mC m ⟨g,o + j * 6 + 1,none⟩ = some (.int .u64 (x.lv : Nat)) ∧ mC m ⟨g,o + j * 6 + 2,none⟩ = some (.slice x.q1 x.n1 x.c1) ∧ mC m ⟨g,o + j * 6 + 3,none⟩ = some (.slice x.q2 x.n2 x.c2) ∧ mC m ⟨g,o + j * 6 + 4,none⟩ = some (.slice x.q3 x.n3 x.c3) ∧ mC m ⟨g,o + j * 6 + 5,none⟩ = some (.slice x.q4 x.n4 x.c4)) ∧ ∃ q1 c1 q2 c2 q3 c3 q4 c4,x = ⟨(fnOf l[j]).name,(fnOf l[j]).level,q1,(fnOf l[j]).params.length,c1,q2,(fnOf l[j]).results.length,c2,q3,(fnOf l[j]).vars.length,c3,q4,(fnOf l[j]).body.length,c4⟩ ∧ FR (mC m) (fnOf l[j]) q1 q2 q3 q4 := by
    intro j hj
    obtain ⟨g,o,c,h1,h2,h3⟩ := rdC (size := 6) hstl hrd he j hj (by decide)
    obtain ⟨q1,c1,q2,c2,q3,c3,q4,c4,rfl,hsr⟩ := fn_FR h2 (hf _ (List.getElem_mem hj))
    have e1 : (fnOf l[j]).params.length = l[j].params.length := List.length_map ..
    have e3 : (fnOf l[j]).vars.length = l[j].vars.length := List.length_map ..
    have e4 : (fnOf l[j]).body.length = l[j].body.length := List.length_map ..
    refine ⟨⟨(fnOf l[j]).name,(fnOf l[j]).level,q1,(fnOf l[j]).params.length,c1,q2,(fnOf l[j]).results.length,c2,q3,(fnOf l[j]).vars.length,c3,q4,(fnOf l[j]).body.length,c4⟩,⟨g,o,h1,h3 0 _ (by decide) rfl,h3 1 _ (by decide) rfl,?_,h3 3 _ (by decide) rfl,?_,?_⟩,q1,c1,q2,c2,q3,c3,q4,c4,rfl,hsr⟩
    · rw [e1]; exact h3 2 _ (by decide) rfl
    · rw [e3]; exact h3 4 _ (by decide) rfl
    · rw [e4]; exact h3 5 _ (by decide) rfl
  obtain ⟨lv,hlen,hlv⟩ := list_each key
  refine ⟨lv,⟨by rw [List.length_map]; exact hlen,fun j hj => ?_,fun j hj hj' => ?_⟩⟩
  · exact (hlv j (by omega) hj).1
  · obtain ⟨q1,c1,q2,c2,q3,c3,q4,c4,e1,e2⟩ := (hlv j (by omega) hj).2
    rw [List.getElem_map]
    exact ⟨q1,c1,q2,c2,q3,c3,q4,c4,e1,e2⟩
theorem so_SoR {s : Syn.So} {q1 c1 q2 c2 q3 c3 q4 c4 q5 c5} (h : SoS m s q1 c1 q2 c2 q3 c3 q4 c4 q5 c5) (hf : SoFit s) : SoR (mC m) (soOf s) q1 c1 q2 q3 q4 q5 := by
  obtain ⟨hp,⟨_,g1,g2⟩,⟨_,a1,a2⟩,⟨_,d1,d2⟩,⟨_,f1,f2⟩⟩ := h
  have hg := de_rowM g1 g2
  have ha := ar_rowM a1 a2
  have hd := de_rowM d1 d2
  have hstr := str_rowM hp
  have mp := row_max hp
  have hde : ∀ {l : List Syn.De},(∀ d ∈ l,d.label < 18446744073709551616) → (∀ d ∈ l,d.name.length ≤ 140737488355327) → ∀ d ∈ l.map deOf,DeF d := by
    intro l ha hb d hd
    obtain ⟨y,hy,rfl⟩ := List.mem_map.1 hd
    exact ⟨ha y hy,by show (sb y.name).size ≤ _; rw [size_sb]; exact hb y hy⟩
  have hpl : (soOf s).principals.length = s.principals.length := List.length_map ..
  have hps : ∀ d ∈ (soOf s).principals,d.size ≤ 140737488355327 := by
    intro d hd
    obtain ⟨y,hy,rfl⟩ := List.mem_map.1 hd
    rw [size_sb]; exact hf.1 y hy
  refine ⟨⟨⟨q1,c1,rfl,fun i hi => ?_⟩,?_,fun i => ?_⟩,hstr,hg.1,ha.1,hd.1,fn_rowM f1 f2 hf.2.2.2.2,⟨hde hg.2 hf.2.1,?_⟩,⟨?_,?_⟩,⟨hde hd.2 hf.2.2.2.1,?_⟩,?_,⟨hps,?_⟩⟩
  · obtain ⟨g,o,e1,e2⟩ := hstr i hi
    exact ⟨g,o,e1,by rw [e2,List.getD_eq_getElem?_getD,List.getElem?_eq_getElem hi]; rfl⟩
  · rw [hpl]; unfold maxLen; omega
  · rw [List.getD_eq_getElem?_getD]
    cases h : (soOf s).principals[i]? with
    | none => show ByteArray.empty.size ≤ _; decide
    | some x => exact hps x (List.mem_of_getElem? h)
  · show (s.globals.map _).length ≤ _; rw [List.length_map]; exact row_max g1
  · intro d hd
    obtain ⟨y,hy,rfl⟩ := List.mem_map.1 hd
    have h1 := hf.2.2.1 y hy
    exact ⟨by show (sb y.name).size ≤ _; rw [size_sb]; exact h1.1,by show _ ≤ ((y.len : Nat) : Int); omega,by show ((y.len : Nat) : Int) ≤ _; omega,ha.2 y hy⟩
  · show (s.arrays.map _).length ≤ _; rw [List.length_map]; exact row_max a1
  · show (s.channels.map _).length ≤ _; rw [List.length_map]; exact row_max d1
  · show (s.funcs.map _).length ≤ _; rw [List.length_map]; exact row_max f1
  · rw [hpl]; exact mp
end
end Go.Proofs.YtpcniebkabkikaaGreatDoor
namespace Go.Proofs.YtpcniebkabkikaaGreatDoor
open Go Go.RowKit Go.Proofs.Mm
open List renaming setIfInBounds_toArray → n1,set_cons_zero → n2,set_cons_succ → n3,getElem_toArray → n4,getElem_cons_zero → n5,getElem_cons_succ → n6
section
variable {C : Cl} {B b : Nat} {vp : Value} {t : List Nat} {W : World}
set_option maxRecDepth 100000 in
set_option maxHeartbeats 4000000 in
theorem source_0 (hc : PC C B) (s : SoZ) {q1 q2 q3 q4 q5 : Option Addr} (c1 c2 c3 c4 c5 : Nat) (h : PI C B b (.slice q1 s.principals.length c1) t W) (hs : SoR C s q1 c1 q2 q3 q4 q5) (h0 : s.principals.length = 0) :
    Calls Tryz.prog 33 #[.pointer (some ⟨b,0,none⟩),sov s q1 c1 q2 c2 q3 c3 q4 c4 q5 c5] W (Wrote C B b (.slice q1 s.principals.length c1) W (t ++ (s.globals.flatMap (kdZ [103,108,111,98,97,108,32] s.principals) ++ (s.arrays.flatMap (arZ s.principals) ++ (s.channels.flatMap (kdZ [99,104,97,110,110,101,108,32] s.principals) ++ s.funcs.flatMap (fnZ s.principals)))))) := by
  have hne : W.heap.size ≠ b := by have := h.b_lt; omega
  have HP1 := Lib.hid (h.alloc hc (soo s q1 c1 q2 c2 q3 c3 q4 c4 q5 c5))
  have HK1 := Lib.hid ((Kp.refl B (fun k => k = b) W).alloc h.low (soo s q1 c1 q2 c2 q3 c3 q4 c4 q5 c5))
  have HX1 := Lib.hid (World.alloc_heap_new W (soo s q1 c1 q2 c2 q3 c3 q4 c4 q5 c5))
  have HC := Lib.hid hc
  have HS := Lib.hid hs
  obtain ⟨lv,hlv⟩ := hs.fn
  have HLV := Lib.hid hlv
  have hmx : Tryz.prog.follows .mixedOrders = true := by kernel_rfl
  have hgt : ¬ (0 : Int) < (s.principals.length : Int) := by omega
  unfold soo at HP1 HK1 HX1
  unfold sov
  clear h hc hs hlv h0
  go_enter Tryz.func33,Tryz.ntmps33
  go_upto_region 1 with fail
  generalize (W.alloc _ : World) = w1 at *
  obtain ⟨d0,d1,d2,d3,d4⟩ := soo_cells HX1.out
  go_upto_region 5 with fail
  have HPd := Lib.hid (HP1.out.all HC.out (Below.refl _ w1).drew)
  have HKd := Lib.hid (show Kp B (fun k => k = b) W w1.drew from HK1.out.drewN 1)
  have HXd := Lib.hid (show w1.drew.heap[W.heap.size]? = some (soo s q1 c1 q2 c2 q3 c3 q4 c4 q5 c5) from HX1.out)
  clear d0 d1 d2 d3 d4 HP1 HK1 HX1
  have hS0 := soo_cells HXd.out
  refine wp_region_held_drew (S := (fun w' : World => w'.cell? ⟨W.heap.size,0,none⟩ = some (.slice q1 s.principals.length c1) ∧ w'.cell? ⟨W.heap.size,1,none⟩ = some (.slice q2 s.globals.length c2) ∧ w'.cell? ⟨W.heap.size,2,none⟩ = some (.slice q3 s.arrays.length c3) ∧ w'.cell? ⟨W.heap.size,3,none⟩ = some (.slice q4 s.channels.length c4) ∧ w'.cell? ⟨W.heap.size,4,none⟩ = some (.slice q5 s.funcs.length c5))) hmx hS0 (fun hHeld => ?_)
  refine wpAnyH_take (i := 0) (v := .pointer (some ⟨b,0,none⟩)) rfl (by kernel_rfl) (by kernel_rfl) (by kernel_rfl) (fun _ _ _ h => h) (Or.inl ⟨by rfl,fun w hSw => by obtain ⟨s0,s1,s2,s3,s4⟩ := hSw; go_simp⟩) (by assumption) ?_
  try simp only [Act.put,n1,n2,n3,n4,n5,n6]
  refine wpAnyH_take (i := 1) (v := .pointer (some ⟨b,0,none⟩)) rfl (by kernel_rfl) (by kernel_rfl) (by kernel_rfl) (fun _ _ _ h => h) (Or.inl ⟨by rfl,fun w hSw => by obtain ⟨s0,s1,s2,s3,s4⟩ := hSw; go_simp⟩) (by assumption) ?_
  try simp only [Act.put,n1,n2,n3,n4,n5,n6]
  refine wpAnyH_take (i := 3) (v := .pointer (some ⟨W.heap.size,1,none⟩)) rfl (by kernel_rfl) (by kernel_rfl) (by kernel_rfl) (fun _ _ _ h => h) (Or.inl ⟨by rfl,fun w hSw => by obtain ⟨s0,s1,s2,s3,s4⟩ := hSw; go_simp⟩) (by assumption) ?_
  try simp only [Act.put,n1,n2,n3,n4,n5,n6]
  refine wpAnyH_take (i := 4) (v := .slice q2 s.globals.length c2) rfl (by kernel_rfl) (by kernel_rfl) (by kernel_rfl) (fun _ _ _ h => h) (Or.inl ⟨by rfl,fun w hSw => by obtain ⟨s0,s1,s2,s3,s4⟩ := hSw; go_simp⟩) (by assumption) ?_
  try simp only [Act.put,n1,n2,n3,n4,n5,n6]
  refine wpAnyH_ready (rs := [2]) (by kernel_rfl) (by simp) ?_
  refine AllReadyH.cons rfl (fun K1 hK1 => ?_) AllReadyH.nil
  go_simp
  go_at_call 61
  refine (declLine_p (b := b) ⟨#[103,108,111,98,97,108,32]⟩ _).mono ?_
  rintro e wz ⟨rfl,hb,hd⟩
  have HPz := Lib.hid (HPd.out.all HC.out hb)
  have HKz := Lib.hid (HKd.out.trans (Kp.all hb HPd.out.low))
  have HXz := Lib.hid ((hb.block _ (heap_lt HXd.out)).trans HXd.out)
  have HDZ := Lib.hid hd
  clear hb hd
  unfold dlC
  refine hK1.out _ _ (soo_cells HXz.out) (fun hHeld => ?_)
  try simp only [Act.put,n1,n2,n3,n4,n5,n6]
  refine wpAnyH_ready (rs := [5]) (by kernel_rfl) (by simp) ?_
  refine AllReadyH.cons rfl (fun K2 hK2 => ?_) AllReadyH.nil
  go_simp
  have HW2 := Lib.hid (kinds_p HC.out HS.out.pv HPz.out (c := c2) s.globals HS.out.gf.2 HS.out.gl HS.out.gf.1 (by decide) HDZ.out HPd.out.b_lt)
  unfold dlC at HW2
  go_at_call 60
  refine HW2.out.mono ?_
  rintro e w2 ⟨rfl,hp,hk⟩
  have HP2 := Lib.hid hp
  have HX2 := Lib.hid (soo_kp HXz.out hk hne)
  have HK2 := Lib.hid (HKz.out.trans hk)
  clear hp hk
  refine hK2.out _ _ (soo_cells HX2.out) (fun hHeld => ?_)
  try simp only [Act.put,n1,n2,n3,n4,n5,n6]
  refine wpAnyH_done (by kernel_rfl) ?_ _
  obtain ⟨d0,d1,d2,d3,d4⟩ := soo_cells HX2.out
  have HW := Lib.hid (arrays_p HC.out HS.out.pv HP2.out (c := c3) s.arrays HS.out.af HS.out.ar)
  go_wp2_with fail
  go_at_call 62
  refine HW.out.mono ?_
  rintro e w3 ⟨rfl,hp,hk⟩
  have HP3 := Lib.hid hp
  have HX3 := Lib.hid (soo_kp HX2.out hk hne)
  have HK3 := Lib.hid (HK2.out.trans hk)
  clear hp hk d0 d1 d2 d3 d4 HW HX2 HK2 HP2
  obtain ⟨d0,d1,d2,d3,d4⟩ := soo_cells HX3.out
  go_upto_region 7 with fail
  have HPd := Lib.hid (HP3.out.all HC.out (Below.refl _ w3).drew)
  have HKd := Lib.hid (show Kp B (fun k => k = b) W w3.drew from HK3.out.drewN 1)
  have HXd := Lib.hid (show w3.drew.heap[W.heap.size]? = some (soo s q1 c1 q2 c2 q3 c3 q4 c4 q5 c5) from HX3.out)
  clear d0 d1 d2 d3 d4 HP3 HK3 HX3
  have hS0 := soo_cells HXd.out
  refine wp_region_held_drew (S := (fun w' : World => w'.cell? ⟨W.heap.size,0,none⟩ = some (.slice q1 s.principals.length c1) ∧ w'.cell? ⟨W.heap.size,1,none⟩ = some (.slice q2 s.globals.length c2) ∧ w'.cell? ⟨W.heap.size,2,none⟩ = some (.slice q3 s.arrays.length c3) ∧ w'.cell? ⟨W.heap.size,3,none⟩ = some (.slice q4 s.channels.length c4) ∧ w'.cell? ⟨W.heap.size,4,none⟩ = some (.slice q5 s.funcs.length c5))) hmx hS0 (fun hHeld => ?_)
  refine wpAnyH_take (i := 0) (v := .pointer (some ⟨b,0,none⟩)) rfl (by kernel_rfl) (by kernel_rfl) (by kernel_rfl) (fun _ _ _ h => h) (Or.inl ⟨by rfl,fun w hSw => by obtain ⟨s0,s1,s2,s3,s4⟩ := hSw; go_simp⟩) (by assumption) ?_
  try simp only [Act.put,n1,n2,n3,n4,n5,n6]
  refine wpAnyH_take (i := 1) (v := .pointer (some ⟨b,0,none⟩)) rfl (by kernel_rfl) (by kernel_rfl) (by kernel_rfl) (fun _ _ _ h => h) (Or.inl ⟨by rfl,fun w hSw => by obtain ⟨s0,s1,s2,s3,s4⟩ := hSw; go_simp⟩) (by assumption) ?_
  try simp only [Act.put,n1,n2,n3,n4,n5,n6]
  refine wpAnyH_take (i := 3) (v := .pointer (some ⟨W.heap.size,3,none⟩)) rfl (by kernel_rfl) (by kernel_rfl) (by kernel_rfl) (fun _ _ _ h => h) (Or.inl ⟨by rfl,fun w hSw => by obtain ⟨s0,s1,s2,s3,s4⟩ := hSw; go_simp⟩) (by assumption) ?_
  try simp only [Act.put,n1,n2,n3,n4,n5,n6]
  refine wpAnyH_take (i := 4) (v := .slice q4 s.channels.length c4) rfl (by kernel_rfl) (by kernel_rfl) (by kernel_rfl) (fun _ _ _ h => h) (Or.inl ⟨by rfl,fun w hSw => by obtain ⟨s0,s1,s2,s3,s4⟩ := hSw; go_simp⟩) (by assumption) ?_
  try simp only [Act.put,n1,n2,n3,n4,n5,n6]
  refine wpAnyH_ready (rs := [2]) (by kernel_rfl) (by simp) ?_
  refine AllReadyH.cons rfl (fun K1 hK1 => ?_) AllReadyH.nil
  go_simp
  go_at_call 61
  refine (declLine_p (b := b) ⟨#[99,104,97,110,110,101,108,32]⟩ _).mono ?_
  rintro e wz ⟨rfl,hb,hd⟩
  have HPz := Lib.hid (HPd.out.all HC.out hb)
  have HKz := Lib.hid (HKd.out.trans (Kp.all hb HPd.out.low))
  have HXz := Lib.hid ((hb.block _ (heap_lt HXd.out)).trans HXd.out)
  have HDZ := Lib.hid hd
  clear hb hd
  unfold dlC
  refine hK1.out _ _ (soo_cells HXz.out) (fun hHeld => ?_)
  try simp only [Act.put,n1,n2,n3,n4,n5,n6]
  refine wpAnyH_ready (rs := [5]) (by kernel_rfl) (by simp) ?_
  refine AllReadyH.cons rfl (fun K2 hK2 => ?_) AllReadyH.nil
  go_simp
  have HW2 := Lib.hid (kinds_p HC.out HS.out.pv HPz.out (c := c4) s.channels HS.out.cf.2 HS.out.ch HS.out.cf.1 (by decide) HDZ.out HPd.out.b_lt)
  unfold dlC at HW2
  go_at_call 60
  refine HW2.out.mono ?_
  rintro e w4 ⟨rfl,hp,hk⟩
  have HP4 := Lib.hid hp
  have HX4 := Lib.hid (soo_kp HXz.out hk hne)
  have HK4 := Lib.hid (HKz.out.trans hk)
  clear hp hk
  refine hK2.out _ _ (soo_cells HX4.out) (fun hHeld => ?_)
  try simp only [Act.put,n1,n2,n3,n4,n5,n6]
  refine wpAnyH_done (by kernel_rfl) ?_ _
  obtain ⟨d0,d1,d2,d3,d4⟩ := soo_cells HX4.out
  have HW := Lib.hid (funcs_p HC.out HS.out.pv HP4.out (c := c5) s.funcs HS.out.ff HLV.out)
  go_wp2_with fail
  go_at_call 64
  refine HW.out.mono ?_
  rintro e w5 ⟨rfl,hp,hk⟩
  have HP5 := Lib.hid hp
  have HX5 := Lib.hid (soo_kp HX4.out hk hne)
  have HK5 := Lib.hid (HK4.out.trans hk)
  clear hp hk d0 d1 d2 d3 d4 HW HX4 HK4 HP4
  go_wp2_with fail
  first | go_end0 | refine bodyPost_ret (results_none rfl _ _ _) rfl ?_
  refine ⟨rfl,?_,HK5.out⟩
  have hp := HP5.out
  have e1 : bl ⟨#[112,114,105,110,99,105,112,97,108,32]⟩ = [112,114,105,110,99,105,112,97,108,32] := rfl
  have e2 : bl ⟨#[32]⟩ = [32] := rfl
  have e3 : bl ⟨#[59,10]⟩ = [59,10] := rfl
  have e4 : bl ⟨#[103,108,111,98,97,108,32]⟩ = [103,108,111,98,97,108,32] := rfl
  have e5 : bl ⟨#[99,104,97,110,110,101,108,32]⟩ = [99,104,97,110,110,101,108,32] := rfl
  simpa [List.append_assoc,e1,e2,e3,e4,e5] using hp
end
end Go.Proofs.YtpcniebkabkikaaGreatDoor
namespace Go.Proofs.YtpcniebkabkikaaGreatDoor
open Go Go.RowKit Go.Proofs.Mm
open List renaming setIfInBounds_toArray → n1,set_cons_zero → n2,set_cons_succ → n3,getElem_toArray → n4,getElem_cons_zero → n5,getElem_cons_succ → n6
section
variable {C : Cl} {B b : Nat} {vp : Value} {t : List Nat} {W : World}
set_option maxRecDepth 100000 in
set_option maxHeartbeats 4000000 in
theorem source_1 (hc : PC C B) (s : SoZ) {q1 q2 q3 q4 q5 : Option Addr} (c1 c2 c3 c4 c5 : Nat) (h : PI C B b (.slice q1 s.principals.length c1) t W) (hs : SoR C s q1 c1 q2 q3 q4 q5) (h0 : s.principals.length ≠ 0) :
    Calls Tryz.prog 33 #[.pointer (some ⟨b,0,none⟩),sov s q1 c1 q2 c2 q3 c3 q4 c4 q5 c5] W (Wrote C B b (.slice q1 s.principals.length c1) W (t ++ (([112,114,105,110,99,105,112,97,108,32] ++ (sepZ [32] bl s.principals ++ [59,10])) ++ (s.globals.flatMap (kdZ [103,108,111,98,97,108,32] s.principals) ++ (s.arrays.flatMap (arZ s.principals) ++ (s.channels.flatMap (kdZ [99,104,97,110,110,101,108,32] s.principals) ++ s.funcs.flatMap (fnZ s.principals))))))) := by
  have hne : W.heap.size ≠ b := by have := h.b_lt; omega
  have HP1 := Lib.hid (h.alloc hc (soo s q1 c1 q2 c2 q3 c3 q4 c4 q5 c5))
  have HK1 := Lib.hid ((Kp.refl B (fun k => k = b) W).alloc h.low (soo s q1 c1 q2 c2 q3 c3 q4 c4 q5 c5))
  have HX1 := Lib.hid (World.alloc_heap_new W (soo s q1 c1 q2 c2 q3 c3 q4 c4 q5 c5))
  have HC := Lib.hid hc
  have HS := Lib.hid hs
  obtain ⟨lv,hlv⟩ := hs.fn
  have HLV := Lib.hid hlv
  have hmx : Tryz.prog.follows .mixedOrders = true := by kernel_rfl
  have hgt : (0 : Int) < (s.principals.length : Int) := by omega
  unfold soo at HP1 HK1 HX1
  unfold sov
  clear h hc hs hlv h0
  go_enter Tryz.func33,Tryz.ntmps33
  go_upto_region 1 with fail
  generalize (W.alloc _ : World) = w1 at *
  obtain ⟨d0,d1,d2,d3,d4⟩ := soo_cells HX1.out
  have HW := Lib.hid (word_p HC.out HP1.out ⟨#[112,114,105,110,99,105,112,97,108,32]⟩ (by decide))
  go_wp2_with fail
  go_at_call 57
  refine HW.out.mono ?_
  rintro e w2 ⟨rfl,hp,hk⟩
  have HP2 := Lib.hid hp
  have HX2 := Lib.hid (soo_kp HX1.out hk hne)
  have HK2 := Lib.hid (HK1.out.trans hk)
  clear hp hk d0 d1 d2 d3 d4 HW HX1 HK1 HP1
  obtain ⟨d0,d1,d2,d3,d4⟩ := soo_cells HX2.out
  go_upto_region 3 with fail
  have HPd := Lib.hid (HP2.out.all HC.out (Below.refl _ w2).drew)
  have HKd := Lib.hid (show Kp B (fun k => k = b) W w2.drew from HK2.out.drewN 1)
  have HXd := Lib.hid (show w2.drew.heap[W.heap.size]? = some (soo s q1 c1 q2 c2 q3 c3 q4 c4 q5 c5) from HX2.out)
  clear d0 d1 d2 d3 d4 HP2 HK2 HX2
  have hS0 := soo_cells HXd.out
  refine wp_region_held_drew (S := (fun w' : World => w'.cell? ⟨W.heap.size,0,none⟩ = some (.slice q1 s.principals.length c1) ∧ w'.cell? ⟨W.heap.size,1,none⟩ = some (.slice q2 s.globals.length c2) ∧ w'.cell? ⟨W.heap.size,2,none⟩ = some (.slice q3 s.arrays.length c3) ∧ w'.cell? ⟨W.heap.size,3,none⟩ = some (.slice q4 s.channels.length c4) ∧ w'.cell? ⟨W.heap.size,4,none⟩ = some (.slice q5 s.funcs.length c5))) hmx hS0 (fun hHeld => ?_)
  refine wpAnyH_take (i := 0) (v := .pointer (some ⟨b,0,none⟩)) rfl (by kernel_rfl) (by kernel_rfl) (by kernel_rfl) (fun _ _ _ h => h) (Or.inl ⟨by rfl,fun w hSw => by obtain ⟨s0,s1,s2,s3,s4⟩ := hSw; go_simp⟩) (by assumption) ?_
  try simp only [Act.put,n1,n2,n3,n4,n5,n6]
  refine wpAnyH_take (i := 1) (v := .pointer (some ⟨b,0,none⟩)) rfl (by kernel_rfl) (by kernel_rfl) (by kernel_rfl) (fun _ _ _ h => h) (Or.inl ⟨by rfl,fun w hSw => by obtain ⟨s0,s1,s2,s3,s4⟩ := hSw; go_simp⟩) (by assumption) ?_
  try simp only [Act.put,n1,n2,n3,n4,n5,n6]
  refine wpAnyH_take (i := 3) (v := .pointer (some ⟨b,0,none⟩)) rfl (by kernel_rfl) (by kernel_rfl) (by kernel_rfl) (fun _ _ _ h => h) (Or.inl ⟨by rfl,fun w hSw => by obtain ⟨s0,s1,s2,s3,s4⟩ := hSw; go_simp⟩) (by assumption) ?_
  try simp only [Act.put,n1,n2,n3,n4,n5,n6]
  refine wpAnyH_take (i := 4) (v := .func (.func 57) #[.pointer (some ⟨b,0,none⟩)] #[]) rfl (by kernel_rfl) (by kernel_rfl) (by kernel_rfl) (fun _ _ _ h => h) (Or.inl ⟨by rfl,fun w hSw => by obtain ⟨s0,s1,s2,s3,s4⟩ := hSw; go_simp⟩) (by assumption) ?_
  try simp only [Act.put,n1,n2,n3,n4,n5,n6]
  refine wpAnyH_take (i := 5) (v := .pointer (some ⟨W.heap.size,0,none⟩)) rfl (by kernel_rfl) (by kernel_rfl) (by kernel_rfl) (fun _ _ _ h => h) (Or.inl ⟨by rfl,fun w hSw => by obtain ⟨s0,s1,s2,s3,s4⟩ := hSw; go_simp⟩) (by assumption) ?_
  try simp only [Act.put,n1,n2,n3,n4,n5,n6]
  refine wpAnyH_take (i := 6) (v := .slice q1 s.principals.length c1) rfl (by kernel_rfl) (by kernel_rfl) (by kernel_rfl) (fun _ _ _ h => h) (Or.inl ⟨by rfl,fun w hSw => by obtain ⟨s0,s1,s2,s3,s4⟩ := hSw; go_simp⟩) (by assumption) ?_
  try simp only [Act.put,n1,n2,n3,n4,n5,n6]
  refine wpAnyH_ready (rs := [2]) (by kernel_rfl) (by simp) ?_
  refine AllReadyH.cons rfl (fun K1 hK1 => ?_) AllReadyH.nil
  go_simp
  go_at_call 59
  refine (between_p HC.out HPd.out ⟨#[32]⟩).mono ?_
  rintro e wz ⟨rfl,hpz,hb,hst,hsz⟩
  have HSEP := Lib.hid (sepStr_p HC.out HPd.out (c := c1) s.principals HS.out.pf.2 HS.out.pr (Ki := 57) (fi := #[.pointer (some ⟨b,0,none⟩)]) (ci := #[]) (enters_of Tryz.func57 (by kernel_rfl) rfl) (f := bl) (fun k hk x wr t' hx hp _ => word_p HC.out hp x (HS.out.pf.1 x (by rw [← hx]; exact List.getElem_mem hk))) ⟨#[32]⟩ (by decide) rfl hpz hb hst hsz)
  have HXz := Lib.hid ((hb.block _ (heap_lt HXd.out)).trans HXd.out)
  clear hpz hb hst hsz
  unfold btC at HSEP ⊢
  refine hK1.out _ _ (soo_cells HXz.out) (fun hHeld => ?_)
  try simp only [Act.put,n1,n2,n3,n4,n5,n6]
  refine wpAnyH_ready (rs := [7]) (by kernel_rfl) (by simp) ?_
  refine AllReadyH.cons rfl (fun K2 hK2 => ?_) AllReadyH.nil
  go_simp
  go_at_call 58
  refine HSEP.out.mono ?_
  rintro e w3 ⟨rfl,hp,hkW⟩
  have HP3 := Lib.hid hp
  have HX3 := Lib.hid (soo_kp HXd.out hkW hne)
  have HK3 := Lib.hid (HKd.out.trans hkW)
  clear hp hkW
  refine hK2.out _ _ (soo_cells HX3.out) (fun hHeld => ?_)
  try simp only [Act.put,n1,n2,n3,n4,n5,n6]
  refine wpAnyH_done (by kernel_rfl) ?_ _
  obtain ⟨d0,d1,d2,d3,d4⟩ := soo_cells HX3.out
  have HW := Lib.hid (word_p HC.out HP3.out ⟨#[59,10]⟩ (by decide))
  go_wp2_with fail
  go_at_call 57
  refine HW.out.mono ?_
  rintro e w4 ⟨rfl,hp,hk⟩
  have HP4 := Lib.hid hp
  have HX4 := Lib.hid (soo_kp HX3.out hk hne)
  have HK4 := Lib.hid (HK3.out.trans hk)
  clear hp hk d0 d1 d2 d3 d4 HW HX3 HK3 HP3
  obtain ⟨d0,d1,d2,d3,d4⟩ := soo_cells HX4.out
  go_upto_region 5 with fail
  have HPd := Lib.hid (HP4.out.all HC.out (Below.refl _ w4).drew)
  have HKd := Lib.hid (show Kp B (fun k => k = b) W w4.drew from HK4.out.drewN 1)
  have HXd := Lib.hid (show w4.drew.heap[W.heap.size]? = some (soo s q1 c1 q2 c2 q3 c3 q4 c4 q5 c5) from HX4.out)
  clear d0 d1 d2 d3 d4 HP4 HK4 HX4
  have hS0 := soo_cells HXd.out
  refine wp_region_held_drew (S := (fun w' : World => w'.cell? ⟨W.heap.size,0,none⟩ = some (.slice q1 s.principals.length c1) ∧ w'.cell? ⟨W.heap.size,1,none⟩ = some (.slice q2 s.globals.length c2) ∧ w'.cell? ⟨W.heap.size,2,none⟩ = some (.slice q3 s.arrays.length c3) ∧ w'.cell? ⟨W.heap.size,3,none⟩ = some (.slice q4 s.channels.length c4) ∧ w'.cell? ⟨W.heap.size,4,none⟩ = some (.slice q5 s.funcs.length c5))) hmx hS0 (fun hHeld => ?_)
  refine wpAnyH_take (i := 0) (v := .pointer (some ⟨b,0,none⟩)) rfl (by kernel_rfl) (by kernel_rfl) (by kernel_rfl) (fun _ _ _ h => h) (Or.inl ⟨by rfl,fun w hSw => by obtain ⟨s0,s1,s2,s3,s4⟩ := hSw; go_simp⟩) (by assumption) ?_
  try simp only [Act.put,n1,n2,n3,n4,n5,n6]
  refine wpAnyH_take (i := 1) (v := .pointer (some ⟨b,0,none⟩)) rfl (by kernel_rfl) (by kernel_rfl) (by kernel_rfl) (fun _ _ _ h => h) (Or.inl ⟨by rfl,fun w hSw => by obtain ⟨s0,s1,s2,s3,s4⟩ := hSw; go_simp⟩) (by assumption) ?_
  try simp only [Act.put,n1,n2,n3,n4,n5,n6]
  refine wpAnyH_take (i := 3) (v := .pointer (some ⟨W.heap.size,1,none⟩)) rfl (by kernel_rfl) (by kernel_rfl) (by kernel_rfl) (fun _ _ _ h => h) (Or.inl ⟨by rfl,fun w hSw => by obtain ⟨s0,s1,s2,s3,s4⟩ := hSw; go_simp⟩) (by assumption) ?_
  try simp only [Act.put,n1,n2,n3,n4,n5,n6]
  refine wpAnyH_take (i := 4) (v := .slice q2 s.globals.length c2) rfl (by kernel_rfl) (by kernel_rfl) (by kernel_rfl) (fun _ _ _ h => h) (Or.inl ⟨by rfl,fun w hSw => by obtain ⟨s0,s1,s2,s3,s4⟩ := hSw; go_simp⟩) (by assumption) ?_
  try simp only [Act.put,n1,n2,n3,n4,n5,n6]
  refine wpAnyH_ready (rs := [2]) (by kernel_rfl) (by simp) ?_
  refine AllReadyH.cons rfl (fun K1 hK1 => ?_) AllReadyH.nil
  go_simp
  go_at_call 61
  refine (declLine_p (b := b) ⟨#[103,108,111,98,97,108,32]⟩ _).mono ?_
  rintro e wz ⟨rfl,hb,hd⟩
  have HPz := Lib.hid (HPd.out.all HC.out hb)
  have HKz := Lib.hid (HKd.out.trans (Kp.all hb HPd.out.low))
  have HXz := Lib.hid ((hb.block _ (heap_lt HXd.out)).trans HXd.out)
  have HDZ := Lib.hid hd
  clear hb hd
  unfold dlC
  refine hK1.out _ _ (soo_cells HXz.out) (fun hHeld => ?_)
  try simp only [Act.put,n1,n2,n3,n4,n5,n6]
  refine wpAnyH_ready (rs := [5]) (by kernel_rfl) (by simp) ?_
  refine AllReadyH.cons rfl (fun K2 hK2 => ?_) AllReadyH.nil
  go_simp
  have HW2 := Lib.hid (kinds_p HC.out HS.out.pv HPz.out (c := c2) s.globals HS.out.gf.2 HS.out.gl HS.out.gf.1 (by decide) HDZ.out HPd.out.b_lt)
  unfold dlC at HW2
  go_at_call 60
  refine HW2.out.mono ?_
  rintro e w5 ⟨rfl,hp,hk⟩
  have HP5 := Lib.hid hp
  have HX5 := Lib.hid (soo_kp HXz.out hk hne)
  have HK5 := Lib.hid (HKz.out.trans hk)
  clear hp hk
  refine hK2.out _ _ (soo_cells HX5.out) (fun hHeld => ?_)
  try simp only [Act.put,n1,n2,n3,n4,n5,n6]
  refine wpAnyH_done (by kernel_rfl) ?_ _
  obtain ⟨d0,d1,d2,d3,d4⟩ := soo_cells HX5.out
  have HW := Lib.hid (arrays_p HC.out HS.out.pv HP5.out (c := c3) s.arrays HS.out.af HS.out.ar)
  go_wp2_with fail
  go_at_call 62
  refine HW.out.mono ?_
  rintro e w6 ⟨rfl,hp,hk⟩
  have HP6 := Lib.hid hp
  have HX6 := Lib.hid (soo_kp HX5.out hk hne)
  have HK6 := Lib.hid (HK5.out.trans hk)
  clear hp hk d0 d1 d2 d3 d4 HW HX5 HK5 HP5
  obtain ⟨d0,d1,d2,d3,d4⟩ := soo_cells HX6.out
  go_upto_region 7 with fail
  have HPd := Lib.hid (HP6.out.all HC.out (Below.refl _ w6).drew)
  have HKd := Lib.hid (show Kp B (fun k => k = b) W w6.drew from HK6.out.drewN 1)
  have HXd := Lib.hid (show w6.drew.heap[W.heap.size]? = some (soo s q1 c1 q2 c2 q3 c3 q4 c4 q5 c5) from HX6.out)
  clear d0 d1 d2 d3 d4 HP6 HK6 HX6
  have hS0 := soo_cells HXd.out
  refine wp_region_held_drew (S := (fun w' : World => w'.cell? ⟨W.heap.size,0,none⟩ = some (.slice q1 s.principals.length c1) ∧ w'.cell? ⟨W.heap.size,1,none⟩ = some (.slice q2 s.globals.length c2) ∧ w'.cell? ⟨W.heap.size,2,none⟩ = some (.slice q3 s.arrays.length c3) ∧ w'.cell? ⟨W.heap.size,3,none⟩ = some (.slice q4 s.channels.length c4) ∧ w'.cell? ⟨W.heap.size,4,none⟩ = some (.slice q5 s.funcs.length c5))) hmx hS0 (fun hHeld => ?_)
  refine wpAnyH_take (i := 0) (v := .pointer (some ⟨b,0,none⟩)) rfl (by kernel_rfl) (by kernel_rfl) (by kernel_rfl) (fun _ _ _ h => h) (Or.inl ⟨by rfl,fun w hSw => by obtain ⟨s0,s1,s2,s3,s4⟩ := hSw; go_simp⟩) (by assumption) ?_
  try simp only [Act.put,n1,n2,n3,n4,n5,n6]
  refine wpAnyH_take (i := 1) (v := .pointer (some ⟨b,0,none⟩)) rfl (by kernel_rfl) (by kernel_rfl) (by kernel_rfl) (fun _ _ _ h => h) (Or.inl ⟨by rfl,fun w hSw => by obtain ⟨s0,s1,s2,s3,s4⟩ := hSw; go_simp⟩) (by assumption) ?_
  try simp only [Act.put,n1,n2,n3,n4,n5,n6]
  refine wpAnyH_take (i := 3) (v := .pointer (some ⟨W.heap.size,3,none⟩)) rfl (by kernel_rfl) (by kernel_rfl) (by kernel_rfl) (fun _ _ _ h => h) (Or.inl ⟨by rfl,fun w hSw => by obtain ⟨s0,s1,s2,s3,s4⟩ := hSw; go_simp⟩) (by assumption) ?_
  try simp only [Act.put,n1,n2,n3,n4,n5,n6]
  refine wpAnyH_take (i := 4) (v := .slice q4 s.channels.length c4) rfl (by kernel_rfl) (by kernel_rfl) (by kernel_rfl) (fun _ _ _ h => h) (Or.inl ⟨by rfl,fun w hSw => by obtain ⟨s0,s1,s2,s3,s4⟩ := hSw; go_simp⟩) (by assumption) ?_
  try simp only [Act.put,n1,n2,n3,n4,n5,n6]
  refine wpAnyH_ready (rs := [2]) (by kernel_rfl) (by simp) ?_
  refine AllReadyH.cons rfl (fun K1 hK1 => ?_) AllReadyH.nil
  go_simp
  go_at_call 61
  refine (declLine_p (b := b) ⟨#[99,104,97,110,110,101,108,32]⟩ _).mono ?_
  rintro e wz ⟨rfl,hb,hd⟩
  have HPz := Lib.hid (HPd.out.all HC.out hb)
  have HKz := Lib.hid (HKd.out.trans (Kp.all hb HPd.out.low))
  have HXz := Lib.hid ((hb.block _ (heap_lt HXd.out)).trans HXd.out)
  have HDZ := Lib.hid hd
  clear hb hd
  unfold dlC
  refine hK1.out _ _ (soo_cells HXz.out) (fun hHeld => ?_)
  try simp only [Act.put,n1,n2,n3,n4,n5,n6]
  refine wpAnyH_ready (rs := [5]) (by kernel_rfl) (by simp) ?_
  refine AllReadyH.cons rfl (fun K2 hK2 => ?_) AllReadyH.nil
  go_simp
  have HW2 := Lib.hid (kinds_p HC.out HS.out.pv HPz.out (c := c4) s.channels HS.out.cf.2 HS.out.ch HS.out.cf.1 (by decide) HDZ.out HPd.out.b_lt)
  unfold dlC at HW2
  go_at_call 60
  refine HW2.out.mono ?_
  rintro e w7 ⟨rfl,hp,hk⟩
  have HP7 := Lib.hid hp
  have HX7 := Lib.hid (soo_kp HXz.out hk hne)
  have HK7 := Lib.hid (HKz.out.trans hk)
  clear hp hk
  refine hK2.out _ _ (soo_cells HX7.out) (fun hHeld => ?_)
  try simp only [Act.put,n1,n2,n3,n4,n5,n6]
  refine wpAnyH_done (by kernel_rfl) ?_ _
  obtain ⟨d0,d1,d2,d3,d4⟩ := soo_cells HX7.out
  have HW := Lib.hid (funcs_p HC.out HS.out.pv HP7.out (c := c5) s.funcs HS.out.ff HLV.out)
  go_wp2_with fail
  go_at_call 64
  refine HW.out.mono ?_
  rintro e w8 ⟨rfl,hp,hk⟩
  have HP8 := Lib.hid hp
  have HX8 := Lib.hid (soo_kp HX7.out hk hne)
  have HK8 := Lib.hid (HK7.out.trans hk)
  clear hp hk d0 d1 d2 d3 d4 HW HX7 HK7 HP7
  go_wp2_with fail
  first | go_end0 | refine bodyPost_ret (results_none rfl _ _ _) rfl ?_
  refine ⟨rfl,?_,HK8.out⟩
  have hp := HP8.out
  have e1 : bl ⟨#[112,114,105,110,99,105,112,97,108,32]⟩ = [112,114,105,110,99,105,112,97,108,32] := rfl
  have e2 : bl ⟨#[32]⟩ = [32] := rfl
  have e3 : bl ⟨#[59,10]⟩ = [59,10] := rfl
  have e4 : bl ⟨#[103,108,111,98,97,108,32]⟩ = [103,108,111,98,97,108,32] := rfl
  have e5 : bl ⟨#[99,104,97,110,110,101,108,32]⟩ = [99,104,97,110,110,101,108,32] := rfl
  simpa [List.append_assoc,e1,e2,e3,e4,e5] using hp
end
end Go.Proofs.YtpcniebkabkikaaGreatDoor
namespace Go.Proofs.YtpcniebkabkikaaGreatDoor
open Go Go.RowKit Go.Proofs.Mm
theorem cellsByte : Tryz.prog.cellsOf 5 = 1 := by kernel_rfl
section
variable {B b : Nat} {vp : Value} {lg : Bool} {acc : List Nat} {w : World}
set_option maxHeartbeats 2000000 in
set_option maxRecDepth 100000 in
theorem string_w (h : WrC B b vp lg acc w) (hBw : B ≤ w.heap.size) : Calls Tryz.prog 34 #[.pointer (some ⟨b,0,none⟩)] w fun e w' => e = .returned (.string (sb acc)) ∧ Below B w w' ∧ Lib.OthersKept 5 none w w' := by
  obtain ⟨hB,p,v,hbk,hp,hown,hne⟩ := h
  have hmx : Tryz.prog.follows .mixedOrders = true := by kernel_rfl
  have u1 := run_underlying Tryz.underlying109
  have u2 := run_underlying Tryz.underlying3
  have u3 := run_underlying Tryz.underlying9
  have u4 := run_underlying Tryz.underlying77
  have hUS := fun (w : World) (p : Option Addr) => Lib.run_unsafeString_none (P := Tryz.prog) (w := w) 109 3 9 p
  have hlen : acc.length = (sb acc).data.toList.length := by unfold sb; simp
  rcases hown.2 with ⟨rfl,h0⟩ | ⟨g,cap,cur,fz,rfl,hbg,hg,hfz,hnc,hcm,hcs,htake⟩
  · have ha : acc = [] := List.eq_nil_of_length_eq_zero h0
    subst ha
    have c1 : w.drew.cell? ⟨b,1,none⟩ = some (.slice none 0 0) := cell_of (w := w.drew) hbk rfl
    have hSD : (Builtin.unsafeSliceData_ #[77] 109 #[.slice none 0 0]).run Tryz.prog w.drew = .ok (.pointer none) w.drew := rfl
    clear hbk hown hne hp
    go_enter Tryz.func34,Tryz.ntmps34
    go_wp2
    go_region_o
    all_goals (go_wp2; go_ret; exact ⟨rfl,Below.drew (Below.refl B w),(Lib.OthersKept.refl _ _ w).drew⟩)
  · by_cases h0 : acc = []
    · subst h0
      by_cases hc0 : cap = 0
      · subst hc0
        have c1 : w.drew.cell? ⟨b,1,none⟩ = some (.slice (some ⟨g,0,none⟩) 0 0) := cell_of (w := w.drew) hbk rfl
        have hlt := heap_lt hbk
        have hSD : (Builtin.unsafeSliceData_ #[77] 109 #[.slice (some ⟨g,0,none⟩) 0 0]).run Tryz.prog w.drew = .ok (.pointer (some ⟨w.drew.heap.size,0,none⟩)) (w.drew.alloc (.view ⟨g,0,none⟩ 5)) :=
          Lib.run_unsafeSliceData_zero w.drew _ _ 5 Tryz.underlying109 ⟨g,0,none⟩ 0 (5,cur.size) (by have hg' : w.drew.heap[g]? = some (.cells cur 5 fz) := hg; simp [World.shape?,hg'])
        have c2 : (w.drew.alloc (.view ⟨g,0,none⟩ 5)).cell? ⟨b,1,none⟩ = some (.slice (some ⟨g,0,none⟩) 0 0) := by
          have : (w.drew.alloc (.view ⟨g,0,none⟩ 5)).heap[b]? = _ := (Lib.alloc_old w.drew _ b hlt).trans hbk
          rw [Lib.cell_of_heap this]; rfl
        have c3 : (w.alloc (.view ⟨g,0,none⟩ 5)).drew.cell? ⟨b,1,none⟩ = some (.slice (some ⟨g,0,none⟩) 0 0) := c2
        have c0 : w.cell? ⟨b,1,none⟩ = some (.slice (some ⟨g,0,none⟩) 0 0) := c1
        clear hbk hown hne hp
        go_enter Tryz.func34,Tryz.ntmps34
        go_wp2
        go_region_o
        all_goals (go_wp2; go_ret; exact ⟨rfl,(Below.drew (Below.refl B w)).alloc hBw _,(Lib.OthersKept.refl _ _ w).drew.alloc _⟩)
      · have c1 : w.drew.cell? ⟨b,1,none⟩ = some (.slice (some ⟨g,0,none⟩) 0 cap) := cell_of (w := w.drew) hbk rfl
        have hSD : (Builtin.unsafeSliceData_ #[77] 109 #[.slice (some ⟨g,0,none⟩) 0 cap]).run Tryz.prog w.drew = .ok (.pointer (some ⟨g,0,none⟩)) w.drew :=
          Lib.run_unsafeSliceData_row _ _ _ _ _ _ hc0
        clear hc0 hbk hown hne hp
        go_enter Tryz.func34,Tryz.ntmps34
        go_wp2
        go_region_o
        all_goals (go_wp2; go_ret; exact ⟨rfl,Below.drew (Below.refl B w),(Lib.OthersKept.refl _ _ w).drew⟩)
    · obtain ⟨l,hl⟩ : ∃ l,(sb acc).data.toList = l := ⟨_,rfl⟩
      have hne0 : l ≠ [] := by rintro rfl; rw [hl] at hlen; exact h0 (List.eq_nil_of_length_eq_zero (by simpa using hlen))
      have hl0 : l.length ≠ 0 := by simpa using hne0
      have hsb : sb acc = ⟨l.toArray⟩ := by rw [← hl]
      rw [hl] at hlen
      rw [hsb]
      rw [hlen] at hbk hnc hfz htake
      have c1 : w.drew.cell? ⟨b,1,none⟩ = some (.slice (some ⟨g,0,none⟩) l.length cap) := cell_of (w := w.drew) hbk rfl
      have hSD : (Builtin.unsafeSliceData_ #[77] 109 #[.slice (some ⟨g,0,none⟩) l.length cap]).run Tryz.prog w.drew = .ok (.pointer (some ⟨g,0,none⟩)) w.drew :=
        Lib.run_unsafeSliceData_row _ _ _ _ _ _ (by omega)
      have hUS2 : (Builtin.unsafeString_ #[109,3] 9 #[.pointer (some ⟨g,0,none⟩),.int .i64 l.length]).run Tryz.prog w.drew = .ok (.string ⟨l.toArray⟩) (w.drew.freeze ⟨g,0,none⟩ l.length) := by
        refine Lib.run_unsafeString_row w.drew 109 3 9 5 Tryz.underlying109 cellsByte g cur.size (by have hg' : w.drew.heap[g]? = some (.cells cur 5 fz) := hg; simp [World.shape?,hg']) l hne0 (by omega) (by unfold maxLen at hcm; omega) ?_
        intro j x hx
        have hxs : (Lib.strCells (sb acc))[j]? = some (.int .u8 x.toNat) := by
          rw [Lib.strCells_eq,hl]; simp [Lib.byteCells,hx]
        exact hown.cells (g := g) rfl j _ hxs
      have HGC := Lib.hid (show ∃ c fz,w.drew.heap[g]? = some (.cells c 5 fz) from ⟨cur,fz,hg⟩)
      clear hbk hown hne hp hUS hsb
      go_enter Tryz.func34,Tryz.ntmps34
      go_wp2
      go_region_o
      all_goals (go_wp2; go_ret; exact ⟨rfl,Lib.below_freeze (Below.drew (Below.refl B w)) (p := ⟨g,0,none⟩) hbg _,(Lib.OthersKept.refl _ _ w).drew.freeze ⟨g,0,none⟩ _ HGC.out⟩)
end
end Go.Proofs.YtpcniebkabkikaaGreatDoor
namespace Go.Proofs.YtpcniebkabkikaaGreatDoor
open Go Go.RowKit Go.Proofs.Mm
def Readz (s : SoZ) : Prop := ∃ so,srcOf (sb (soZ s)) = .ok so ∧ soOf so = s
def SrcRes (s : SoZ) (W : World) (e : Ending) (w' : World) : Prop := Below W.heap.size W w' ∧
  ((65536 < (soZ s).length ∧ e = .returned (.tuple #[.string ⟨#[]⟩,.int .i64 3])) ∨
   (¬ 65536 < (soZ s).length ∧ (∃ z,bl z = soZ s) ∧ ((Readz s ∧ e = .returned (.tuple #[.string (sb (soZ s)),.int .i64 0])) ∨ (¬ Readz s ∧ e = .returned (.tuple #[.string ⟨#[]⟩,.int .i64 1])))))
section
variable {C : Cl} {B b : Nat} {W : World} {q1 q2 q3 q4 q5 : Option Addr}
theorem src_src (hc : PC C B) (s : SoZ) (c1 c2 c3 c4 c5 : Nat) (h : PI C B b (.slice q1 s.principals.length c1) [] W) (hs : SoR C s q1 c1 q2 q3 q4 q5) :
    Calls Tryz.prog 33 #[.pointer (some ⟨b,0,none⟩),sov s q1 c1 q2 c2 q3 c3 q4 c4 q5 c5] W (Wrote C B b (.slice q1 s.principals.length c1) W (soZ s)) := by
  by_cases h0 : s.principals.length = 0
  · have := source_0 hc s c1 c2 c3 c4 c5 h hs h0
    unfold soZ
    rw [if_pos h0]
    exact this
  · have := source_1 hc s c1 c2 c3 c4 c5 h hs h0
    unfold soZ
    rw [if_neg h0]
    exact this
theorem same_read {D : Cl} (so : Syn.So) (s : SoZ) {c1 c2 c3 c4 c5 d1 d2 d3 d4 d5 : Nat} {r1 r2 r3 r4 r5 : Option Addr} (hs : SoR C (soOf so) q1 c1 q2 q3 q4 q5) (ht : SoR D s r1 d1 r2 r3 r4 r5) (hC : CLe C (wC W)) (hD : CLe D (wC W)) :
    Calls Tryz.prog 35 #[.agg #[.slice q1 so.principals.length c1,.slice q2 so.globals.length c2,.slice q3 so.arrays.length c3,.slice q4 so.channels.length c4,.slice q5 so.funcs.length c5],sov s r1 d1 r2 d2 r3 d3 r4 d4 r5 d5] W (SaysB (soOf so = s) W) := by
  have h := sameSource_p (c2 := c2) (c3 := c3) (c4 := c4) (c5 := c5) (d2 := d2) (d3 := d3) (d4 := d4) (d5 := d5) (soOf so) s hs ht hC hD
  have e1 : (soOf so).principals.length = so.principals.length := List.length_map ..
  have e2 : (soOf so).globals.length = so.globals.length := List.length_map ..
  have e3 : (soOf so).arrays.length = so.arrays.length := List.length_map ..
  have e4 : (soOf so).channels.length = so.channels.length := List.length_map ..
  have e5 : (soOf so).funcs.length = so.funcs.length := List.length_map ..
  unfold sov at h ⊢
  rw [e1,e2,e3,e4,e5] at h
  exact h
set_option maxRecDepth 100000 in
set_option maxHeartbeats 4000000 in
theorem source_p (s : SoZ) (c1 c2 c3 c4 c5 : Nat) (hs : SoR C s q1 c1 q2 q3 q4 q5) (hC : CLe C (wC W)) (hE : EnvP W) (hfit : ¬ 65536 < (soZ s).length → ∀ so,srcOf (sb (soZ s)) = .ok so → SoFit so) :
    Calls Tryz.prog 9 #[sov s q1 c1 q2 c2 q3 c3 q4 c4 q5 c5] W (SrcRes s W) := by
  have hc : PC C W.heap.size := ⟨fun a v e => World.block_lt_of_cell? _ _ (hC a v e),hE.lt⟩
  have hbA : Below W.heap.size W (W.alloc (soo s q1 c1 q2 c2 q3 c3 q4 c4 q5 c5)) := (Below.refl _ _).alloc (Nat.le_refl _) _
  have hbB : Below W.heap.size W ((W.alloc (soo s q1 c1 q2 c2 q3 c3 q4 c4 q5 c5)).alloc (.cells #[.pointer none,.slice none 0 0,.bool false,.slice q1 s.principals.length c1] 81)) := hbA.alloc (by rw [World.size_alloc]; omega) _
  have hX := heap_new _ (.cells #[.pointer none,.slice none 0 0,.bool false,.slice q1 s.principals.length c1] 81) (World.alloc_heap_new W (soo s q1 c1 q2 c2 q3 c3 q4 c4 q5 c5))
  have hbw := World.alloc_heap_new (W.alloc (soo s q1 c1 q2 c2 q3 c3 q4 c4 q5 c5)) (.cells #[.pointer none,.slice none 0 0,.bool false,.slice q1 s.principals.length c1] 81)
  rw [World.size_alloc] at hbw
  have hpi : PI C W.heap.size (W.heap.size + 1) (.slice q1 s.principals.length c1) [] ((W.alloc (soo s q1 c1 q2 c2 q3 c3 q4 c4 q5 c5)).alloc (.cells #[.pointer none,.slice none 0 0,.bool false,.slice q1 s.principals.length c1] 81)) :=
    ⟨hc.rd hC hbB,hE.all hbB,⟨false,[],⟨by omega,_,_,hbw,.inl rfl,⟨rfl,.inl ⟨rfl,rfl⟩⟩,by simp [Value.ownBlock]⟩,by simp,.inl ⟨rfl,rfl,⟨⟨#[]⟩,rfl⟩⟩⟩,hbB.size⟩
  have HSRC := Lib.hid (src_src hc s c1 c2 c3 c4 c5 hpi hs)
  have HX := Lib.hid hX
  have HC := Lib.hid hc
  have HCC := Lib.hid hC
  have HS := Lib.hid hs
  have HE := Lib.hid hE
  have HBB := Lib.hid hbB
  have HFIT := Lib.hid hfit
  unfold sov at HSRC ⊢
  unfold soo at HX HSRC HBB
  clear hc hbA hbB hX hbw hpi hs hC hE hfit
  go_enter Tryz.func9,Tryz.ntmps9
  go_wp2_with fail
  go_at_call 33
  refine HSRC.out.mono ?_
  rintro e w2 ⟨rfl,hp,hk⟩
  have hX2 := hk.heap HX.out (by omega) (by decide)
  have HX2 := Lib.hid hX2
  have HB2 := Lib.hid (HBB.out.trans hk.below)
  have HP2 := Lib.hid hp
  obtain ⟨lg,acc,hw,hl,hx⟩ := hp.wr
  obtain ⟨z2,_⟩ := hw.raw
  clear hX2 hk hp
  rcases hx with ⟨rfl,rfl,hz⟩ | ⟨rfl,hlong⟩
  · have hnl : ¬ 65536 < (soZ s).length := by omega
    have HST := Lib.hid (string_w hw HP2.out.low)
    have HNL := Lib.hid hnl
    have HZ := Lib.hid hz
    clear hw hl hnl hz
    go_wp2_with fail
    go_at_call 34
    refine HST.out.mono ?_
    rintro e w3 ⟨rfl,hb3,hk3⟩
    have HX3 := Lib.hid (hk3 _ _ HX2.out (by simp) (by intro c fz e; cases e))
    have HB3 := Lib.hid (HB2.out.trans hb3)
    have HPA := Lib.hid (parse_any (sb (soZ s)) w3 (HE.out.all HB3.out).lex (m := fun _ => none) (fun _ _ e => by cases e))
    clear hb3 hk3 HST HX2 HP2 HB2 z2
    go_wp2_with fail
    go_at_call 25
    refine HPA.out.mono ?_
    intro e w4 hres
    obtain ⟨hb4,⟨er,a,hsrc,rfl⟩ | ⟨so,p1,a1,p2,a2,p3,a3,p4,a4,p5,a5,m',hsrc,rfl,hso,_,hhas⟩⟩ := hres.cases
    · have HB4 := Lib.hid (on_below HB3.out hb4)
      have HNR := Lib.hid (show ¬ Readz s from fun ⟨so,h,_⟩ => by rw [hsrc] at h; cases h)
      clear hb4 hres hsrc HPA HX3 HB3
      go_wp2_with fail
      go_ret2
      exact ⟨(HB4.out.alloc HB4.out.size _).alloc (by rw [World.size_alloc]; have := HB4.out.size; omega) _,.inr ⟨HNL.out,HZ.out,.inr ⟨HNR.out,rfl⟩⟩⟩
    · have HB4 := Lib.hid (on_below HB3.out hb4)
      have hx4 := (hb4.block _ (heap_lt HX3.out)).trans HX3.out
      have hB6 : Below W.heap.size W ((w4.alloc (.cells #[.slice p1 so.principals.length a1,.slice p2 so.globals.length a2,.slice p3 so.arrays.length a3,.slice p4 so.channels.length a4,.slice p5 so.funcs.length a5] 27)).alloc (.cells #[.int .i64 0,.int .i64 0,.int .i64 0] 61)) := (HB4.out.alloc HB4.out.size _).alloc (by rw [World.size_alloc]; have := HB4.out.size; omega) _
      have hb6 : Below w4.heap.size w4 ((w4.alloc (.cells #[.slice p1 so.principals.length a1,.slice p2 so.globals.length a2,.slice p3 so.arrays.length a3,.slice p4 so.channels.length a4,.slice p5 so.funcs.length a5] 27)).alloc (.cells #[.int .i64 0,.int .i64 0,.int .i64 0] 61)) := ((Below.refl _ _).alloc (Nat.le_refl _) _).alloc (by rw [World.size_alloc]; omega) _
      have HSM := Lib.hid (fun w (h1 : Below W.heap.size W w) (h2 : Below w4.heap.size w4 w) => same_read (W := w) (c2 := a2) (c3 := a3) (c4 := a4) (c5 := a5) (d2 := c2) (d3 := c3) (d4 := c4) (d5 := c5) so s (so_SoR (SoM.rows hso) (HFIT.out HNL.out so hsrc)) HS.out ((has_cle hhas).trans (below_cle h2)) (HCC.out.trans (below_cle h1)))
      have HB6 := Lib.hid hB6
      have HB6b := Lib.hid hb6
      have HX6 := Lib.hid ((hb6.block _ (heap_lt hx4)).trans hx4)
      have HRZ := Lib.hid (show Readz s ↔ soOf so = s from ⟨fun ⟨x,h,e⟩ => by rw [hsrc] at h; injection h with h; rw [h]; exact e,fun e => ⟨so,hsrc,e⟩⟩)
      unfold sov at HSM
      clear hb4 hres hsrc hso hhas hx4 hB6 hb6 HPA HX3 HB3
      obtain ⟨x0,x1,x2,x3,x4⟩ := soo_cells HX6.out
      go_wp2_with fail
      go_at_call 35
      refine (HSM.out _ HB6.out HB6b.out).mono ?_
      rintro e w7 ⟨p,rfl,hp,hb7⟩
      have HB7 := Lib.hid (on_below HB6.out hb7)
      have HP := Lib.hid hp
      clear hb7 hp x0 x1 x2 x3 x4 HB6 HB6b HX6 HSM
      cases p
      · go_wp2_with fail
        go_ret2
        exact ⟨HB7.out,.inr ⟨HNL.out,HZ.out,.inr ⟨fun h => (by have := HP.out.2 (HRZ.out.1 h); cases this),rfl⟩⟩⟩
      · go_wp2_with fail
        go_ret2
        exact ⟨HB7.out,.inr ⟨HNL.out,HZ.out,.inl ⟨HRZ.out.2 (HP.out.1 (by first | rfl | trivial)),rfl⟩⟩⟩
  · have HLONG := Lib.hid hlong
    clear hw hl hlong
    go_wp2_with fail
    go_ret2
    exact ⟨HB2.out,.inl ⟨HLONG.out,rfl⟩⟩
end
end Go.Proofs.YtpcniebkabkikaaGreatDoor
namespace Go.Proofs.YtpcniebkabkikaaGreatDoor
open Go Go.RowKit Go.Proofs.Mm
def gvT : ByteArray := ⟨(((([112,114,105,110,99,105,112,97,108,32,97,32,98,59,10,103,108,111,98,97,108,32,120,32,123,97,125,59,10,97,114,114,97] : List UInt8).append [121,32,116,32,52,32,123,125,59,10,99,104,97,110,110,101,108,32,99,32,123,97,32,98,125,59,10,102,117,110,99,32,102,32]).append ([123,125,32,40,112,32,123,125,44,32,113,32,123,97,125,41,32,40,123,125,44,32,123,97,125,41,32,123,10,32,32,118,97].append [114,32,118,32,123,125,59,10,32,32,118,32,61,32,112,32,43,32,49,59,10,32,32,116,91,118,93,32,61,32,112,59,10,32])).append (([32,105,102,32,112,32,60,32,50,32,123,10,32,32,32,32,115,101,110,100,32,99,32,113,59,10,32,32,125,32,101,108,115].append [101,32,123,10,32,32,32,32,119,104,105,108,101,32,118,32,123,10,32,32,32,32,32,32,118,44,32,120,32,61,32,102,40,118]).append ([32,45,32,49,44,32,48,41,59,10,32,32,32,32,125,10,32,32,125,10,32,32,114,101,116,117,114,110,32,118,44,32,113].append [59,10,125,10,102,117,110,99,32,103,32,123,125,32,40,41,32,40,41,32,123,10,32,32,114,101,116,117,114,110,59,10,125,10]))).toArray⟩
def gvS : Syn.So := ⟨[[97],[98]],[⟨[120],1⟩],[⟨[116],4,0⟩],[⟨[99],3⟩],[⟨[102],0,[⟨[112],0⟩,⟨[113],1⟩],[0,1],[⟨[118],0⟩],[⟨1,[],[[118]],[[⟨2,0,[112]⟩,⟨1,1,[]⟩,⟨5,1,[]⟩]]⟩,⟨2,[116],[],[[⟨2,0,[118]⟩],[⟨2,0,[112]⟩]]⟩,⟨5,[],[],[[⟨2,0,[112]⟩,⟨1,2,[]⟩,⟨5,13,[]⟩]]⟩,⟨3,[99],[],[[⟨2,0,[113]⟩]]⟩,⟨6,[],[],[]⟩,⟨7,[],[],[[⟨2,0,[118]⟩]]⟩,⟨4,[102],[[118],[120]],[[⟨2,0,[118]⟩,⟨1,1,[]⟩,⟨5,2,[]⟩],[⟨1,0,[]⟩]]⟩,⟨8,[],[],[]⟩,⟨8,[],[],[]⟩,⟨9,[],[],[[⟨2,0,[118]⟩],[⟨2,0,[113]⟩]]⟩]⟩,⟨[103],0,[],[],[],[⟨9,[],[],[]⟩]⟩]⟩
set_option maxRecDepth 100000 in
theorem gv_read : srcOf gvT = .ok gvS := by
  unfold srcOf
  rw [readOf_F _ _ (by decide +kernel)]
  exact okIs_eq (by decide +kernel)
set_option maxRecDepth 100000 in
theorem gv_fit : SoFit gvS := by unfold SoFit FnFit StFit ExFit; decide +kernel
set_option maxRecDepth 100000 in
theorem gv_text : soZ (soOf gvS) = bl gvT := by decide +kernel
theorem gv_sb : sb (soZ (soOf gvS)) = gvT := by rw [gv_text,sb_bl]
theorem gv_len : ¬ 65536 < (soZ (soOf gvS)).length := by rw [gv_text,bl_length]; decide +kernel
theorem gv_readz : Readz (soOf gvS) := ⟨gvS,by rw [gv_sb]; exact gv_read,rfl⟩
theorem gv_fits (so : Syn.So) (h : srcOf (sb (soZ (soOf gvS))) = .ok so) : SoFit so := by
  rw [gv_sb,gv_read] at h
  injection h with h
  rw [← h]; exact gv_fit
end Go.Proofs.YtpcniebkabkikaaGreatDoor
namespace Go.Proofs.YtpcniebkabkikaaGreatDoor
open Go Go.RowKit Go.Proofs.Mm
theorem given_p (W : World) : Calls Tryz.prog 42 #[] W fun e w' => e = .returned (.string gvT) ∧ Below W.heap.size W w' := by
  go_enter Tryz.func42,Tryz.ntmps42
  go_wp2
  go_ret
  exact ⟨rfl,Below.refl _ _⟩
set_option maxRecDepth 100000 in
theorem name_t (x : ByteArray) (W : World) : Calls Tryz.prog 19 #[.string x] W fun e w' => e = .returned (tv ⟨2,0,x⟩) ∧ Below W.heap.size W w' := by
  go_enter Tryz.func19,Tryz.ntmps19
  go_wp2
  exact bodyPost_ret (v := tv ⟨2,0,x⟩) (by simp [results,Tryz.results19,go_sem,tv]) rfl ⟨rfl,(Below.refl _ _).alloc (Nat.le_refl _) _⟩
set_option maxRecDepth 100000 in
theorem at_t (x : ByteArray) (W : World) : Calls Tryz.prog 23 #[.string x] W fun e w' => e = .returned (tv ⟨3,0,x⟩) ∧ Below W.heap.size W w' := by
  go_enter Tryz.func23,Tryz.ntmps23
  go_wp2
  exact bodyPost_ret (v := tv ⟨3,0,x⟩) (by simp [results,Tryz.results23,go_sem,tv]) rfl ⟨rfl,(Below.refl _ _).alloc (Nat.le_refl _) _⟩
set_option maxRecDepth 100000 in
theorem num_t (x : Int) (W : World) : Calls Tryz.prog 22 #[.int .i64 x] W fun e w' => e = .returned (tv ⟨1,x,⟨#[]⟩⟩) ∧ Below W.heap.size W w' := by
  go_enter Tryz.func22,Tryz.ntmps22
  go_wp2
  exact bodyPost_ret (v := tv ⟨1,x,⟨#[]⟩⟩) (by simp [results,Tryz.results22,go_sem,tv]) rfl ⟨rfl,(Below.refl _ _).alloc (Nat.le_refl _) _⟩
set_option maxRecDepth 100000 in
theorem un_t (x : Int) (W : World) : Calls Tryz.prog 24 #[.int .i64 x] W fun e w' => e = .returned (tv ⟨4,x,⟨#[]⟩⟩) ∧ Below W.heap.size W w' := by
  go_enter Tryz.func24,Tryz.ntmps24
  go_wp2
  exact bodyPost_ret (v := tv ⟨4,x,⟨#[]⟩⟩) (by simp [results,Tryz.results24,go_sem,tv]) rfl ⟨rfl,(Below.refl _ _).alloc (Nat.le_refl _) _⟩
set_option maxRecDepth 100000 in
theorem bin_t (x : Int) (W : World) : Calls Tryz.prog 21 #[.int .i64 x] W fun e w' => e = .returned (tv ⟨5,x,⟨#[]⟩⟩) ∧ Below W.heap.size W w' := by
  go_enter Tryz.func21,Tryz.ntmps21
  go_wp2
  exact bodyPost_ret (v := tv ⟨5,x,⟨#[]⟩⟩) (by simp [results,Tryz.results21,go_sem,tv]) rfl ⟨rfl,(Below.refl _ _).alloc (Nat.le_refl _) _⟩
def tmCs (l : List TmZ) : List Value := l.flatMap tmZ
def TmAt (W : World) (g : Nat) (l : List TmZ) : Prop := W.heap[g]? = some (.cells (tmCs l).toArray 45 (0,0))
theorem tmCs_enc : ∀ l : List TmZ,Enc (fun c t => c = tmZ t) (tmCs l) l
  | [] => rfl
  | t :: l => ⟨tmZ t,tmCs l,by unfold tmCs; rw [List.flatMap_cons],rfl,tmCs_enc l⟩
theorem TmAt.row {W : World} {g : Nat} {l : List TmZ} (h : TmAt W g l) : TmRow (wC W) (some ⟨g,0,none⟩) l := by
  intro j hj
  have hr : RdO (wC W) (some ⟨g,0,none⟩) (tmCs l) := .inr ⟨g,0,rfl,fun k u hu => by
    rw [Nat.zero_add]
    exact cell_of h (by rw [List.getElem?_toArray]; exact hu)⟩
  obtain ⟨g',o,c,h1,rfl,h2⟩ := rdC (size := 3) (fun c x e => by rw [e]; rfl) hr (tmCs_enc l) j hj (by decide)
  exact ⟨g',o,h1,h2 0 _ (by decide) rfl,h2 1 _ (by decide) rfl,h2 2 _ (by decide) rfl⟩
def txZ (l : List TmZ) : List Nat := if wholeZ l then exZ l else [110,111,110,101]
section
variable {C : Cl} {W : World}
set_option maxRecDepth 100000 in
set_option maxHeartbeats 1000000 in
theorem text_t (l : List TmZ) (hf : ExF l) {q : Option Addr} {c : Nat} (hrow : TmRow C q l) (hc : c ≤ maxLen) (hlc : l.length ≤ c) (hr : CLe C (wC W)) (hE : EnvP W) :
    Calls Tryz.prog 20 #[.slice q l.length c] W fun e w' => ∃ s,e = .returned (.string s) ∧ bl s = txZ l ∧ Below W.heap.size W w' := by
  have HX := Lib.hid (expr_p l hf hrow hc hlc hr hE)
  have HT := Lib.hid (show txZ l = _ from rfl)
  have HN := Lib.hid (show wholeZ l = false → exZ l = [] from fun h => by unfold exZ; rw [h]; rfl)
  obtain ⟨n,hn⟩ : ∃ n,l.length = n := ⟨_,rfl⟩
  rw [hn] at HX ⊢
  clear hf hrow hc hlc hr hE hn
  cases hb : wholeZ l with
  | false =>
    rw [hb] at HX
    have HE := Lib.hid (HN.out hb)
    have HB := Lib.hid hb
    clear hb
    go_enter Tryz.func20,Tryz.ntmps20
    go_wp2_with fail
    go_at_call 14
    refine HX.out.mono ?_
    rintro e w1 ⟨s,rfl,hs,hb1⟩
    have hs0 : s = ⟨#[]⟩ := bl_inj (by rw [hs,HE.out]; rfl)
    subst hs0
    have HB1 := Lib.hid hb1
    clear hb1 hs
    go_wp2_with fail
    go_ret
    exact ⟨_,rfl,by unfold txZ; rw [HB.out]; rfl,HB1.out⟩
  | true =>
    rw [hb] at HX
    have HB := Lib.hid hb
    clear hb
    go_enter Tryz.func20,Tryz.ntmps20
    go_wp2_with fail
    go_at_call 14
    refine HX.out.mono ?_
    rintro e w1 ⟨s,rfl,hs,hb1⟩
    have HB1 := Lib.hid hb1
    have HS := Lib.hid hs
    clear hb1 hs
    go_wp2_with fail
    go_ret
    exact ⟨_,rfl,by unfold txZ; rw [HB.out]; exact HS.out,HB1.out⟩
end
end Go.Proofs.YtpcniebkabkikaaGreatDoor
namespace Go.Proofs.YtpcniebkabkikaaGreatDoor
open Go Go.RowKit Go.Proofs.Mm
theorem name_l (x : ByteArray) (W : World) : Calls Tryz.prog 19 #[.string x] W fun e w' => e = .returned (.agg #[.int .i64 2,.int .i64 0,.string x]) ∧ Below W.heap.size W w' := name_t x W
theorem bin_l (x : Int) (W : World) : Calls Tryz.prog 21 #[.int .i64 x] W fun e w' => e = .returned (.agg #[.int .i64 5,.int .i64 x,.string ⟨#[]⟩]) ∧ Below W.heap.size W w' := bin_t x W
def awL : List TmZ := [⟨2,0,⟨#[97]⟩⟩,⟨2,0,⟨#[98]⟩⟩,⟨5,1,⟨#[]⟩⟩,⟨2,0,⟨#[99]⟩⟩,⟨5,3,⟨#[]⟩⟩]
theorem aw_text : txZ awL = [40,97,32,43,32,98,41,32,42,32,99] := by decide +kernel
theorem aw_fit : ExF awL := by unfold ExF TmF awL; decide +kernel
theorem source_gv {C : Cl} {W : World} {q1 q2 q3 q4 q5 : Option Addr} {c1 c2 c3 c4 c5 : Nat} (hs : SoR C (soOf gvS) q1 c1 q2 q3 q4 q5) (hC : CLe C (wC W)) (hE : EnvP W) :
    Calls Tryz.prog 9 #[.agg #[.slice q1 gvS.principals.length c1,.slice q2 gvS.globals.length c2,.slice q3 gvS.arrays.length c3,.slice q4 gvS.channels.length c4,.slice q5 gvS.funcs.length c5]] W fun e w' => e = .returned (.tuple #[.string gvT,.int .i64 0]) ∧ Below W.heap.size W w' := by
  have h := source_p (soOf gvS) c1 c2 c3 c4 c5 hs hC hE (fun _ => gv_fits)
  have e1 : (soOf gvS).principals.length = gvS.principals.length := List.length_map ..
  have e2 : (soOf gvS).globals.length = gvS.globals.length := List.length_map ..
  have e3 : (soOf gvS).arrays.length = gvS.arrays.length := List.length_map ..
  have e4 : (soOf gvS).channels.length = gvS.channels.length := List.length_map ..
  have e5 : (soOf gvS).funcs.length = gvS.funcs.length := List.length_map ..
  unfold sov at h
  rw [e1,e2,e3,e4,e5] at h
  refine h.mono ?_
  rintro e w' ⟨hb,⟨h1,_⟩ | ⟨_,_,⟨_,h2⟩ | ⟨h2,_⟩⟩⟩
  · exact absurd h1 gv_len
  · exact ⟨by rw [h2,gv_sb],hb⟩
  · exact absurd gv_readz h2
section
variable {W : World}
set_option maxRecDepth 100000 in
set_option maxHeartbeats 4000000 in
theorem awake_p (W : World) (hE : EnvP W) : Calls Tryz.prog 12 #[] W fun e w' => e = .returned (.bool true) ∧ Below W.heap.size W w' := by
  have HE := Lib.hid hE
  have hgg : (gvT.toList == gvT.toList) = true := by simp
  clear hE
  go_enter Tryz.func12,Tryz.ntmps12
  go_wp2_with fail
  go_at_call 42
  refine (given_p _).mono ?_
  rintro e w1 ⟨rfl,hb1⟩
  have HB1 := Lib.hid hb1
  have HPA := Lib.hid (parse_any gvT w1 (HE.out.all hb1).lex (m := fun _ => none) (fun _ _ e => by cases e))
  clear hb1
  go_wp2_with fail
  go_at_call 25
  refine HPA.out.mono ?_
  intro e w2 hres
  obtain ⟨hb2,⟨er,a,hsrc,rfl⟩ | ⟨so,p1,a1,p2,a2,p3,a3,p4,a4,p5,a5,m',hsrc,rfl,hso,_,hhas⟩⟩ := hres.cases
  · rw [gv_read] at hsrc; cases hsrc
  rw [gv_read] at hsrc
  injection hsrc with hsrc
  subst hsrc
  have HB2 := Lib.hid (on_below HB1.out hb2)
  have HSR := Lib.hid (fun w (h1 : Below W.heap.size W w) (h2 : Below w2.heap.size w2 w) => source_gv (W := w) (c2 := a2) (c3 := a3) (c4 := a4) (c5 := a5) (so_SoR (SoM.rows hso) gv_fit) ((has_cle hhas).trans (below_cle h2)) (HE.out.all h1))
  clear hb2 hres hso hhas HPA HB1
  generalize gvS.principals.length = n1 at *
  generalize gvS.globals.length = n2 at *
  generalize gvS.arrays.length = n3 at *
  generalize gvS.channels.length = n4 at *
  generalize gvS.funcs.length = n5 at *
  have HB3 := Lib.hid (show Below W.heap.size W ((w2.alloc (.cells #[.slice p1 n1 a1,.slice p2 n2 a2,.slice p3 n3 a3,.slice p4 n4 a4,.slice p5 n5 a5] 27)).alloc (.cells #[.int .i64 0,.int .i64 0,.int .i64 0] 61)) from (HB2.out.alloc HB2.out.size _).alloc (by rw [World.size_alloc]; have := HB2.out.size; omega) _)
  have HB4 := Lib.hid (show Below w2.heap.size w2 ((w2.alloc (.cells #[.slice p1 n1 a1,.slice p2 n2 a2,.slice p3 n3 a3,.slice p4 n4 a4,.slice p5 n5 a5] 27)).alloc (.cells #[.int .i64 0,.int .i64 0,.int .i64 0] 61)) from ((Below.refl _ _).alloc (Nat.le_refl _) _).alloc (by rw [World.size_alloc]; omega) _)
  have hflt := World.alloc_heap_new (w2.alloc (.cells #[.slice p1 n1 a1,.slice p2 n2 a2,.slice p3 n3 a3,.slice p4 n4 a4,.slice p5 n5 a5] 27)) (.cells #[.int .i64 0,.int .i64 0,.int .i64 0] 61)
  rw [World.size_alloc] at hflt
  have HFL := Lib.hid hflt
  clear hflt
  go_wp2_with fail
  go_at_call 9
  refine (HSR.out _ HB3.out HB4.out).mono ?_
  rintro e w5 ⟨rfl,hb5⟩
  have HB5 := Lib.hid (on_below HB3.out hb5)
  have hfl := (hb5.block _ (heap_lt HFL.out)).trans HFL.out
  have f0 := cell_of (j := 0) hfl rfl
  have f1 := cell_of (j := 1) hfl rfl
  have f2 := cell_of (j := 2) hfl rfl
  clear hb5 hfl HB3 HB4 HSR HFL HB2
  go_wp2_with fail
  go_at_call 42
  refine (given_p _).mono ?_
  rintro e w6 ⟨rfl,hb⟩
  have HB6 := Lib.hid (on_below HB5.out hb)
  clear hb f0 f1 f2
  go_wp2_with fail
  go_at_call 19
  refine (name_l _ _).mono ?_
  rintro e w7 ⟨rfl,hb⟩
  have HB7 := Lib.hid (on_below HB6.out hb)
  clear hb
  go_wp2_with fail
  go_at_call 19
  refine (name_l _ _).mono ?_
  rintro e w8 ⟨rfl,hb⟩
  have HB8 := Lib.hid (on_below HB7.out hb)
  clear hb
  go_wp2_with fail
  go_at_call 21
  refine (bin_l _ _).mono ?_
  rintro e w9 ⟨rfl,hb⟩
  have HB9 := Lib.hid (on_below HB8.out hb)
  clear hb
  go_wp2_with fail
  go_at_call 19
  refine (name_l _ _).mono ?_
  rintro e w10 ⟨rfl,hb⟩
  have HB10 := Lib.hid (on_below HB9.out hb)
  clear hb
  go_wp2_with fail
  go_at_call 21
  refine (bin_l _ _).mono ?_
  rintro e w11 ⟨rfl,hb⟩
  have HB11 := Lib.hid (on_below HB10.out hb)
  clear hb
  have HTX := Lib.hid (fun w (h : w = w11.alloc (.cells (tmCs awL).toArray 45)) => text_t (W := w) (C := wC w) awL aw_fit (c := 5) (TmAt.row (g := w11.heap.size) (show TmAt w w11.heap.size awL from by rw [h]; exact World.alloc_heap_new _ _)) (by decide) (by decide) (CLe.refl _) (HE.out.all (by rw [h]; exact on_alloc HB11.out _)))
  go_wp2_with fail
  go_at_call 20
  refine (HTX.out _ rfl).mono ?_
  rintro e w12 ⟨s,rfl,hs,hb⟩
  have HB12 := Lib.hid (on_below (on_alloc HB11.out _) hb)
  have hse : s = ⟨#[40,97,32,43,32,98,41,32,42,32,99]⟩ := bl_inj (by rw [hs,aw_text]; rfl)
  subst hse
  clear hb hs HTX
  go_wp2_with fail
  go_ret
  exact ⟨rfl,HB12.out⟩
end
end Go.Proofs.YtpcniebkabkikaaGreatDoor
namespace Go.Proofs.YtpcniebkabkikaaGreatDoor
open Go Go.RowKit Go.Proofs.Mm
theorem at_l (x : ByteArray) (W : World) : Calls Tryz.prog 23 #[.string x] W fun e w' => e = .returned (.agg #[.int .i64 3,.int .i64 0,.string x]) ∧ Below W.heap.size W w' := at_t x W
theorem num_l (x : Int) (W : World) : Calls Tryz.prog 22 #[.int .i64 x] W fun e w' => e = .returned (.agg #[.int .i64 1,.int .i64 x,.string ⟨#[]⟩]) ∧ Below W.heap.size W w' := num_t x W
theorem un_l (x : Int) (W : World) : Calls Tryz.prog 24 #[.int .i64 x] W fun e w' => e = .returned (.agg #[.int .i64 4,.int .i64 x,.string ⟨#[]⟩]) ∧ Below W.heap.size W w' := un_t x W
def smallT (l : List TmZ) : Bool := decide (l.length ≤ 100) && l.all fun t => decide (t.name.size ≤ 100) && decide (t.value ≤ 100)
theorem small_fit {l : List TmZ} (h : smallT l = true) : ExF l := by
  unfold smallT at h
  rw [Bool.and_eq_true,decide_eq_true_eq,List.all_eq_true] at h
  refine ⟨by omega,fun t ht => ?_⟩
  have := h.2 t ht
  rw [Bool.and_eq_true,decide_eq_true_eq,decide_eq_true_eq] at this
  exact ⟨by omega,by omega⟩
section
variable {W : World} {g : Nat}
theorem text_lit {l : List TmZ} (hf : smallT l = true) {x : ByteArray} (hx : txZ l = bl x) (hat : TmAt W g l) (hE : EnvP W) {n : Nat} (hn : l.length = n) : Calls Tryz.prog 20 #[.slice (some ⟨g,0,none⟩) n n] W fun e w' => e = .returned (.string x) ∧ Below W.heap.size W w' := by
  have hf2 := small_fit hf
  have h := text_t (W := W) (C := wC W) l hf2 (c := l.length) hat.row (by have := hf2.1; unfold maxLen; omega) (Nat.le_refl _) (CLe.refl _) hE
  rw [hn] at h
  refine h.mono ?_
  rintro e w' ⟨s,rfl,hs,hb⟩
  rw [show s = x from bl_inj (hs.trans hx)]
  exact ⟨rfl,hb⟩
theorem text_none (hE : EnvP W) : Calls Tryz.prog 20 #[.slice none 0 0] W fun e w' => e = .returned (.string ⟨#[110,111,110,101]⟩) ∧ Below W.heap.size W w' := by
  have h := text_t (W := W) (C := wC W) [] (small_fit (by decide)) (q := none) (c := 0) (fun j hj => absurd hj (by simp)) (by decide) (by decide) (CLe.refl _) hE
  refine h.mono ?_
  rintro e w' ⟨s,rfl,hs,hb⟩
  rw [show s = ⟨#[110,111,110,101]⟩ from bl_inj (hs.trans rfl)]
  exact ⟨rfl,hb⟩
theorem level_lit {l : List TmZ} (hf : smallT l = true) {x : Int} (hx : lvZ l = x) (hat : TmAt W g l) (hE : EnvP W) {n : Nat} (hn : l.length = n) : Calls Tryz.prog 16 #[.slice (some ⟨g,0,none⟩) n n] W fun e w' => e = .returned (.int .i64 x) ∧ Below W.heap.size W w' := by
  have h := level_p (W := W) (C := wC W) l (small_fit hf) (c := l.length) hat.row (CLe.refl _) hE
  rw [hn,hx] at h
  exact h
theorem level_none (hE : EnvP W) : Calls Tryz.prog 16 #[.slice none 0 0] W fun e w' => e = .returned (.int .i64 (-1)) ∧ Below W.heap.size W w' :=
  level_p (W := W) (C := wC W) [] (small_fit (by decide)) (q := none) (c := 0) (fun j hj => absurd hj (by simp)) (CLe.refl _) hE
end
def pk0 : List TmZ := [⟨2,0,⟨#[97]⟩⟩,⟨2,0,⟨#[98]⟩⟩,⟨2,0,⟨#[99]⟩⟩,⟨5,3,⟨#[]⟩⟩,⟨5,1,⟨#[]⟩⟩]
theorem pk0_small : smallT pk0 = true := by decide +kernel
theorem pk0_is : txZ pk0 = bl ⟨#[97,32,43,32,98,32,42,32,99]⟩ := by decide +kernel
def pk1 : List TmZ := [⟨2,0,⟨#[97]⟩⟩,⟨2,0,⟨#[98]⟩⟩,⟨5,2,⟨#[]⟩⟩,⟨2,0,⟨#[99]⟩⟩,⟨5,2,⟨#[]⟩⟩]
theorem pk1_small : smallT pk1 = true := by decide +kernel
theorem pk1_is : txZ pk1 = bl ⟨#[97,32,45,32,98,32,45,32,99]⟩ := by decide +kernel
def pk2 : List TmZ := [⟨2,0,⟨#[97]⟩⟩,⟨2,0,⟨#[98]⟩⟩,⟨2,0,⟨#[99]⟩⟩,⟨5,2,⟨#[]⟩⟩,⟨5,2,⟨#[]⟩⟩]
theorem pk2_small : smallT pk2 = true := by decide +kernel
theorem pk2_is : txZ pk2 = bl ⟨#[97,32,45,32,40,98,32,45,32,99,41]⟩ := by decide +kernel
def pk3 : List TmZ := [⟨1,1,⟨#[]⟩⟩,⟨3,0,⟨#[116]⟩⟩,⟨4,15,⟨#[]⟩⟩,⟨4,16,⟨#[]⟩⟩]
theorem pk3_small : smallT pk3 = true := by decide +kernel
theorem pk3_is : txZ pk3 = bl ⟨#[33,45,116,91,49,93]⟩ := by decide +kernel
def pk4 : List TmZ := [⟨2,0,⟨#[97]⟩⟩,⟨2,0,⟨#[98]⟩⟩,⟨5,1,⟨#[]⟩⟩,⟨4,15,⟨#[]⟩⟩]
theorem pk4_small : smallT pk4 = true := by decide +kernel
theorem pk4_is : txZ pk4 = bl ⟨#[45,40,97,32,43,32,98,41]⟩ := by decide +kernel
def pk5 : List TmZ := [⟨2,0,⟨#[97]⟩⟩,⟨4,15,⟨#[]⟩⟩,⟨2,0,⟨#[98]⟩⟩,⟨5,9,⟨#[]⟩⟩]
theorem pk5_small : smallT pk5 = true := by decide +kernel
theorem pk5_is : txZ pk5 = bl ⟨#[45,97,32,60,60,32,98]⟩ := by decide +kernel
def pk6 : List TmZ := [⟨2,0,⟨#[97]⟩⟩,⟨2,0,⟨#[98]⟩⟩]
theorem pk6_small : smallT pk6 = true := by decide +kernel
theorem pk6_is : txZ pk6 = bl ⟨#[110,111,110,101]⟩ := by decide +kernel
def pk7 : List TmZ := [⟨5,1,⟨#[]⟩⟩]
theorem pk7_small : smallT pk7 = true := by decide +kernel
theorem pk7_is : txZ pk7 = bl ⟨#[110,111,110,101]⟩ := by decide +kernel
def pk9 : List TmZ := [⟨2,0,⟨#[105,102]⟩⟩]
theorem pk9_small : smallT pk9 = true := by decide +kernel
theorem pk9_is : txZ pk9 = bl ⟨#[110,111,110,101]⟩ := by decide +kernel
def pk10 : List TmZ := [⟨1,-1,⟨#[]⟩⟩]
theorem pk10_small : smallT pk10 = true := by decide +kernel
theorem pk10_is : txZ pk10 = bl ⟨#[110,111,110,101]⟩ := by decide +kernel
def pk11 : List TmZ := [⟨4,1,⟨#[]⟩⟩]
theorem pk11_small : smallT pk11 = true := by decide +kernel
theorem pk11_is : txZ pk11 = bl ⟨#[110,111,110,101]⟩ := by decide +kernel
def pk12 : List TmZ := [⟨2,0,⟨#[97]⟩⟩,⟨2,0,⟨#[98]⟩⟩,⟨5,15,⟨#[]⟩⟩]
theorem pk12_small : smallT pk12 = true := by decide +kernel
theorem pk12_is : txZ pk12 = bl ⟨#[110,111,110,101]⟩ := by decide +kernel
def pk13 : List TmZ := [⟨2,0,⟨#[97]⟩⟩,⟨2,0,⟨#[98]⟩⟩,⟨5,11,⟨#[]⟩⟩]
theorem pk13_small : smallT pk13 = true := by decide +kernel
theorem pk13_is : lvZ pk13 = 0 := by decide +kernel
def pk14 : List TmZ := [⟨2,0,⟨#[97]⟩⟩]
theorem pk14_small : smallT pk14 = true := by decide +kernel
theorem pk14_is : lvZ pk14 = 7 := by decide +kernel
def KnC (b : Nat) (x : ByteArray) (w : World) : Prop := w.cell? ⟨b,0,none⟩ = some (.int .i64 2) ∧ w.cell? ⟨b,1,none⟩ = some (.int .i64 0) ∧ w.cell? ⟨b,2,none⟩ = some (.string x)
def KnS (b1 b2 b3 : Nat) (w : World) : Prop := KnC b1 ⟨#[97]⟩ w ∧ KnC b2 ⟨#[98]⟩ w ∧ KnC b3 ⟨#[99]⟩ w
theorem KnC.keep {b : Nat} {x : ByteArray} {w w' : World} (h : KnC b x w) (hb : Below w.heap.size w w') : KnC b x w' := ⟨below_cle hb _ _ h.1,below_cle hb _ _ h.2.1,below_cle hb _ _ h.2.2⟩
theorem KnS.keep {b1 b2 b3 : Nat} {w w' : World} (h : KnS b1 b2 b3 w) (hb : Below w.heap.size w w') : KnS b1 b2 b3 w' := ⟨h.1.keep hb,h.2.1.keep hb,h.2.2.keep hb⟩
theorem KnC.new (w : World) (x : ByteArray) : KnC w.heap.size x (w.alloc (.cells #[.int .i64 2,.int .i64 0,.string x] 45)) := ⟨cell_of (World.alloc_heap_new _ _) rfl,cell_of (World.alloc_heap_new _ _) rfl,cell_of (World.alloc_heap_new _ _) rfl⟩
theorem alloc_below (w : World) (o : Obj) : Below w.heap.size w (w.alloc o) := (Below.refl _ _).alloc (Nat.le_refl _) _
end Go.Proofs.YtpcniebkabkikaaGreatDoor
namespace Go.Proofs.YtpcniebkabkikaaGreatDoor
open Go Go.RowKit Go.Proofs.Mm
theorem own_rdO {w : World} {B n size c : Nat} {E : TypeId} {q : Option Addr} {xs : List Value} (h : w.ownsRow B E size (.slice q n c) n xs) : RdO (wC w) q xs := by
  have hc := fun g (hg : (Value.slice q n c).ownBlock = some g) => World.ownsRow.cells h hg
  rcases h.2 with ⟨_,h0⟩ | ⟨g,cap,cur,e,_⟩
  · refine .inl (List.eq_nil_of_length_eq_zero ?_)
    rw [h.1,h0,Nat.zero_mul]
  · injection e with e1 _ _
    subst e1
    refine .inr ⟨g,0,rfl,fun j u hu => ?_⟩
    have := hc g rfl j u hu
    rw [Addr.add_lit] at this
    exact this
theorem blk_rdO {w : World} {g : Nat} {xs : List Value} {T : TypeId} (h : w.heap[g]? = some (.cells xs.toArray T (0,0))) : RdO (wC w) (some ⟨g,0,none⟩) xs :=
  .inr ⟨g,0,rfl,fun j u hu => by rw [Nat.zero_add]; exact cell_of h (by rw [List.getElem?_toArray]; exact hu)⟩
def deZc (d : DeZ) : List Value := [.string d.name,.int .u64 (d.label : Nat)]
theorem deZ_enc : ∀ l : List DeZ,Enc (fun c d => c = deZc d) (l.flatMap deZc) l
  | [] => rfl
  | d :: l => ⟨deZc d,l.flatMap deZc,by rw [List.flatMap_cons],rfl,deZ_enc l⟩
theorem deZ_row {C : Cl} {q : Option Addr} {l : List DeZ} (h : RdO C q (l.flatMap deZc)) : DeRow C q l := by
  intro j hj
  obtain ⟨g,o,c,h1,rfl,h2⟩ := rdC (size := 2) (fun c x e => by rw [e]; rfl) h (deZ_enc l) j hj (by decide)
  exact ⟨g,o,h1,h2 0 _ (by decide) rfl,h2 1 _ (by decide) rfl⟩
theorem sor_mk {C : Cl} {gl : List DeZ} {fs : List FnZ} {q2 q5 : Option Addr} (hg : DeRow C q2 gl) (hgf : (∀ d ∈ gl,DeF d) ∧ gl.length ≤ 9223372036854775807) (hf : ∃ lv,FnRow C q5 fs lv) (hff : fs.length ≤ 9223372036854775807) : SoR C ⟨[],gl,[],[],fs⟩ none 0 q2 none none q5 := by
  refine ⟨⟨⟨none,0,rfl,fun i hi => absurd hi (by simp)⟩,Nat.zero_le _,fun i => by simp⟩,fun j hj => absurd hj (by simp),hg,fun j hj => absurd hj (by simp),fun j hj => absurd hj (by simp),hf,hgf,⟨fun d hd => absurd hd (by simp),Nat.zero_le _⟩,⟨fun d hd => absurd hd (by simp),Nat.zero_le _⟩,hff,⟨fun d hd => absurd hd (by simp),Nat.zero_le _⟩⟩
theorem fn_nil {C : Cl} : ∃ lv,FnRow C none [] lv := ⟨[],rfl,fun j hj => absurd hj (by simp),fun j hj => absurd hj (by simp)⟩
theorem fn_one {w : World} {g : Nat} {nm : ByteArray} {body : List StZ} {qb : Option Addr} {cb n : Nat} (hn : body.length = n) (hg : w.heap[g]? = some (.cells #[.string nm,.int .u64 0,.slice none 0 0,.slice none 0 0,.slice none 0 0,.slice qb n cb] 54 (0,0))) (hs : nm.size ≤ 140737488355327) (hb : ∃ lv,BdRow (wC w) qb body lv) :
    ∃ lv,FnRow (wC w) (some ⟨g,0,none⟩) [⟨nm,0,[],[],[],body⟩] lv := by
  subst hn
  refine ⟨[⟨nm,0,none,0,0,none,0,0,none,0,0,qb,body.length,cb⟩],rfl,fun j hj => ?_,fun j hj hj' => ?_⟩
  · obtain rfl : j = 0 := by simpa using hj
    exact ⟨g,0,rfl,cell_of hg rfl,cell_of hg rfl,cell_of hg rfl,cell_of hg rfl,cell_of hg rfl,cell_of hg rfl⟩
  · obtain rfl : j = 0 := by simpa using hj
    exact ⟨none,0,none,0,none,0,qb,cb,rfl,⟨⟨hs,(by show (0 : Nat) < _; decide),⟨fun d hd => absurd hd (by simp),Nat.zero_le _⟩,⟨fun d hd => absurd hd (by simp),Nat.zero_le _⟩,⟨fun d hd => absurd hd (by simp),Nat.zero_le _⟩⟩,fun j hj => absurd hj (by simp),fun j hj => absurd hj (by simp),fun j hj => absurd hj (by simp),hb⟩⟩
theorem bd_nil {C : Cl} : ∃ lv,BdRow C none [] lv := ⟨[],rfl,fun j hj => absurd hj (by simp),fun j hj => absurd hj (by simp),by decide⟩
def isErr {α : Type} (r : Except (Nat × Nat) α) : Bool := match r with | .error _ => true | .ok _ => false
theorem not_read {s : SoZ} (h1 : (sb (soZ s)).size ≤ 65536) (h : isErr (readF Syn.source (sb (soZ s))) = true) : ¬ Readz s := by
  rintro ⟨so,hs,_⟩
  unfold srcOf at hs
  rw [readOf_F _ _ h1] at hs
  rw [hs] at h
  cases h
theorem not_fit {s : SoZ} (h1 : (sb (soZ s)).size ≤ 65536) (h : isErr (readF Syn.source (sb (soZ s))) = true) (so : Syn.So) (hs : srcOf (sb (soZ s)) = .ok so) : SoFit so := by
  unfold srcOf at hs
  rw [readOf_F _ _ h1] at hs
  rw [hs] at h
  cases h
section
variable {C : Cl} {W : World}
theorem src_bad {s : SoZ} (hl : (soZ s).length ≤ 65536) (h : isErr (readF Syn.source (sb (soZ s))) = true) {q1 q2 q3 q4 q5 : Option Addr} {c1 c2 c3 c4 c5 : Nat} (hs : SoR C s q1 c1 q2 q3 q4 q5) (hC : CLe C (wC W)) (hE : EnvP W) :
    Calls Tryz.prog 9 #[sov s q1 c1 q2 c2 q3 c3 q4 c4 q5 c5] W fun e w' => e = .returned (.tuple #[.string ⟨#[]⟩,.int .i64 1]) ∧ Below W.heap.size W w' := by
  have h1 : (sb (soZ s)).size ≤ 65536 := by rw [sb_size]; exact hl
  refine (source_p s c1 c2 c3 c4 c5 hs hC hE (fun _ => not_fit h1 h)).mono ?_
  rintro e w' ⟨hb,⟨h2,_⟩ | ⟨_,_,⟨h2,_⟩ | ⟨_,h2⟩⟩⟩
  · omega
  · exact absurd h2 (not_read h1 h)
  · exact ⟨h2,hb⟩
def so0 : SoZ := ⟨[],[],[],[],[]⟩
theorem so0_text : sb (soZ so0) = ⟨#[]⟩ := by decide +kernel
theorem so0_src : srcOf ⟨#[]⟩ = .ok ⟨[],[],[],[],[]⟩ := by
  unfold srcOf
  rw [readOf_F _ _ (by decide)]
  exact okIs_eq (by decide +kernel)
theorem src_0 (hE : EnvP W) : Calls Tryz.prog 9 #[.agg #[.slice none 0 0,.slice none 0 0,.slice none 0 0,.slice none 0 0,.slice none 0 0]] W fun e w' => e = .returned (.tuple #[.string ⟨#[]⟩,.int .i64 0]) ∧ Below W.heap.size W w' := by
  have h := source_p (C := fun _ => none) (W := W) so0 0 0 0 0 0 (sor_mk (q2 := none) (q5 := none) (fun j hj => absurd hj (by simp)) ⟨fun d hd => absurd hd (by simp),by decide⟩ fn_nil (by decide)) (fun _ _ e => by cases e) hE (fun _ so hs => by
    rw [so0_text,so0_src] at hs
    injection hs with hs
    rw [← hs]
    exact ⟨fun d hd => absurd hd (by simp),fun d hd => absurd hd (by simp),fun d hd => absurd hd (by simp),fun d hd => absurd hd (by simp),fun d hd => absurd hd (by simp)⟩)
  refine h.mono ?_
  rintro e w' ⟨hb,⟨h2,_⟩ | ⟨_,_,⟨_,h2⟩ | ⟨h2,_⟩⟩⟩
  · exact absurd h2 (by decide +kernel)
  · exact ⟨by rw [h2,so0_text],hb⟩
  · exact absurd ⟨_,by rw [so0_text]; exact so0_src,rfl⟩ h2
def so1 : SoZ := ⟨[],[],[],[],[⟨⟨#[102]⟩,0,[],[],[],[]⟩]⟩
def so2 : SoZ := ⟨[],[],[],[],[⟨⟨#[102]⟩,0,[],[],[],[⟨8,⟨#[]⟩,[],[]⟩,⟨9,⟨#[]⟩,[],[]⟩]⟩]⟩
def so3 : SoZ := ⟨[],[⟨⟨#[120]⟩,1⟩],[],[],[]⟩
def so4 : SoZ := ⟨[],List.replicate 6000 ⟨⟨#[120,120]⟩,0⟩,[],[],[]⟩
theorem so1_bad : (soZ so1).length ≤ 65536 ∧ isErr (readF Syn.source (sb (soZ so1))) = true := by decide +kernel
theorem so2_bad : (soZ so2).length ≤ 65536 ∧ isErr (readF Syn.source (sb (soZ so2))) = true := by decide +kernel
theorem so3_bad : (soZ so3).length ≤ 65536 ∧ isErr (readF Syn.source (sb (soZ so3))) = true := by decide +kernel
theorem src_1 (hE : EnvP W) {g : Nat} (hg : W.heap[g]? = some (.cells #[.string ⟨#[102]⟩,.int .u64 0,.slice none 0 0,.slice none 0 0,.slice none 0 0,.slice none 0 0] 54 (0,0))) :
    Calls Tryz.prog 9 #[.agg #[.slice none 0 0,.slice none 0 0,.slice none 0 0,.slice none 0 0,.slice (some ⟨g,0,none⟩) 1 1]] W fun e w' => e = .returned (.tuple #[.string ⟨#[]⟩,.int .i64 1]) ∧ Below W.heap.size W w' :=
  src_bad (C := wC W) (s := so1) (c1 := 0) (c2 := 0) (c3 := 0) (c4 := 0) (c5 := 1) so1_bad.1 so1_bad.2 (sor_mk (q2 := none) (fun j hj => absurd hj (by simp)) ⟨fun d hd => absurd hd (by simp),by decide⟩ (fn_one (body := []) rfl hg (by decide) bd_nil) (by decide)) (CLe.refl _) hE
theorem src_2 (hE : EnvP W) {g gb : Nat} (hg : W.heap[g]? = some (.cells #[.string ⟨#[102]⟩,.int .u64 0,.slice none 0 0,.slice none 0 0,.slice none 0 0,.slice (some ⟨gb,0,none⟩) 2 2] 54 (0,0)))
    (hb : W.heap[gb]? = some (.cells #[.int .i64 8,.string ⟨#[]⟩,.slice none 0 0,.slice none 0 0,.int .i64 9,.string ⟨#[]⟩,.slice none 0 0,.slice none 0 0] 57 (0,0))) :
    Calls Tryz.prog 9 #[.agg #[.slice none 0 0,.slice none 0 0,.slice none 0 0,.slice none 0 0,.slice (some ⟨g,0,none⟩) 1 1]] W fun e w' => e = .returned (.tuple #[.string ⟨#[]⟩,.int .i64 1]) ∧ Below W.heap.size W w' :=
  src_bad (C := wC W) (s := so2) (c1 := 0) (c2 := 0) (c3 := 0) (c4 := 0) (c5 := 1) so2_bad.1 so2_bad.2 (sor_mk (q2 := none) (fun j hj => absurd hj (by simp)) ⟨fun d hd => absurd hd (by simp),by decide⟩ (fn_one (body := [⟨8,⟨#[]⟩,[],[]⟩,⟨9,⟨#[]⟩,[],[]⟩]) rfl hg (by decide) ⟨[⟨8,⟨#[]⟩,none,0,0,none,0,0⟩,⟨9,⟨#[]⟩,none,0,0,none,0,0⟩],rfl,fun j hj => by
      have hj2 : j < 2 := hj
      have : j = 0 ∨ j = 1 := by omega
      rcases this with rfl | rfl
      · exact ⟨gb,0,rfl,cell_of hb rfl,cell_of hb rfl,cell_of hb rfl,cell_of hb rfl⟩
      · exact ⟨gb,0,rfl,cell_of hb rfl,cell_of hb rfl,cell_of hb rfl,cell_of hb rfl⟩,fun j hj hj' => by
      have hj2 : j < 2 := hj
      have : j = 0 ∨ j = 1 := by omega
      have hno : ∀ k : Int,SR (wC W) ⟨k,⟨#[]⟩,[],[]⟩ none none := fun k => ⟨fun j hj => absurd hj (by simp),⟨[],rfl,fun j hj => absurd hj (by simp),fun j hj => absurd hj (by simp)⟩,(by show (0 : Nat) ≤ _; decide),fun d hd => absurd hd (by simp),fun d hd => absurd hd (by simp),Nat.zero_le _,Nat.zero_le _⟩
      rcases this with rfl | rfl
      · exact ⟨none,0,none,0,rfl,hno 8⟩
      · exact ⟨none,0,none,0,rfl,hno 9⟩,by decide⟩) (by decide)) (CLe.refl _) hE
theorem src_3 (hE : EnvP W) {g : Nat} (hg : W.heap[g]? = some (.cells #[.string ⟨#[120]⟩,.int .u64 1] 59 (0,0))) :
    Calls Tryz.prog 9 #[.agg #[.slice none 0 0,.slice (some ⟨g,0,none⟩) 1 1,.slice none 0 0,.slice none 0 0,.slice none 0 0]] W fun e w' => e = .returned (.tuple #[.string ⟨#[]⟩,.int .i64 1]) ∧ Below W.heap.size W w' :=
  src_bad (C := wC W) (s := so3) (c1 := 0) (c2 := 1) (c3 := 0) (c4 := 0) (c5 := 0) so3_bad.1 so3_bad.2 (sor_mk (q5 := none) (deZ_row (l := [⟨⟨#[120]⟩,1⟩]) (blk_rdO hg)) ⟨fun d hd => by obtain rfl := List.mem_singleton.1 hd; exact ⟨by decide,by decide⟩,by decide⟩ fn_nil (by decide)) (CLe.refl _) hE
theorem so4_len : 65536 < (soZ so4).length := by
  have h1 : (kdZ [103,108,111,98,97,108,32] [] ⟨⟨#[120,120]⟩,0⟩).length = 14 := by decide +kernel
  have h2 : ∀ n,((List.replicate n (⟨⟨#[120,120]⟩,0⟩ : DeZ)).flatMap (kdZ [103,108,111,98,97,108,32] [])).length = 14 * n := by
    intro n
    induction n with
    | zero => rfl
    | succ n ih => rw [List.replicate_succ,List.flatMap_cons,List.length_append,ih,h1]; omega
  have h3 := h2 6000
  show 65536 < ([] ++ ((List.replicate 6000 (⟨⟨#[120,120]⟩,0⟩ : DeZ)).flatMap (kdZ [103,108,111,98,97,108,32] []) ++ ([] ++ ([] ++ [])))).length
  rw [List.nil_append,List.length_append,h3]
  omega
theorem src_4 (hE : EnvP W) {q : Option Addr} {c : Nat} (hg : W.ownsRow 0 59 2 (.slice q 6000 c) 6000 ((List.replicate 6000 (⟨⟨#[120,120]⟩,0⟩ : DeZ)).flatMap deZc)) :
    Calls Tryz.prog 9 #[.agg #[.slice none 0 0,.slice q 6000 c,.slice none 0 0,.slice none 0 0,.slice none 0 0]] W fun e w' => e = .returned (.tuple #[.string ⟨#[]⟩,.int .i64 3]) ∧ Below W.heap.size W w' := by
  have hlen : (List.replicate 6000 (⟨⟨#[120,120]⟩,0⟩ : DeZ)).length = 6000 := List.length_replicate
  have h := source_p (C := wC W) (W := W) so4 0 c 0 0 0 (sor_mk (gl := List.replicate 6000 ⟨⟨#[120,120]⟩,0⟩) (fs := []) (q5 := none) (deZ_row (own_rdO hg)) ⟨fun d hd => by rw [(List.mem_replicate.1 hd).2]; exact ⟨by decide,by decide⟩,by rw [hlen]; decide⟩ fn_nil (by decide)) (CLe.refl _) hE (fun h => absurd so4_len h)
  have e2 : so4.globals.length = 6000 := hlen
  unfold sov at h
  rw [e2] at h
  refine h.mono ?_
  rintro e w' ⟨hb,⟨_,h2⟩ | ⟨h2,_⟩⟩
  · exact ⟨h2,hb⟩
  · exact absurd so4_len h2
end
end Go.Proofs.YtpcniebkabkikaaGreatDoor
