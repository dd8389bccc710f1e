/- ImageSums: the law's walk. -/
import Derived.Test.YtbfkgcapkffecaaImSumsPR8
namespace Go.Proofs.Ytbfkgcapkffecaa
open Go Go.RowKit Go.Proofs.Mm Go.Sort
section
variable {w:World}
theorem pts_rows (T:TypeId) (L:List (Option Addr × Nat × List Nat)) (h:∀ x ∈ L,ByIn w.heap.size w x.1 x.2.2∧bytesL x.2.2∧x.2.2.length≤maxLen) :
    PtsAt (w.alloc (.cells (L.map fun x=>Value.slice x.1 x.2.2.length x.2.1).toArray T)) (some ⟨w.heap.size,0,none⟩) (L.map (·.2.2)):=by
  intro i hi
  rw [List.length_map] at hi
  obtain ⟨h1,h2,h3⟩:=h L[i] (List.getElem_mem hi)
  simp only [List.getElem_map]
  refine ⟨_,0,L[i].1,L[i].2.1,rfl,(InB.new w _ T).cell (j:=0+i) ?_,h1.below (bl_al (Below.refl _ _) _) (Nat.le_refl _) (by simp),h2,h3⟩
  rw [Nat.zero_add]
  simp [hi]
theorem rowIn_bytes {p:Option Addr} {c:Nat} {l:List Nat} (hp:(p=none∧l=[]∧c=0) ∨ ∃ ad,p=some ad) (hs:ByIn w.heap.size w p l):RowIn w p l.length c 1 (bv l):=by
  refine ⟨by simp [bv],bv_one l,?_⟩
  rcases hp with ⟨rfl,rfl,rfl⟩ | ⟨ad,rfl⟩
  · exact .inl ⟨rfl,rfl,rfl⟩
  · exact .inr ⟨ad,rfl,by_cells hs⟩
set_option maxRecDepth 100000 in
set_option maxHeartbeats 4000000 in
theorem sums_law (a b:List Nat) {p q:Option Addr} {c d:Nat} (hp:(p=none∧a=[]∧c=0) ∨ ∃ ad,p=some ad) (hpa:ByIn w.heap.size w p a) (hxa:bytesL a) (_hla:a.length≤c) (_hma:c≤maxLen)
    (hq:(q=none∧b=[]∧d=0) ∨ ∃ ad,q=some ad) (hqb:ByIn w.heap.size w q b) (hxb:bytesL b) (_hlb:b.length≤d) (_hmb:d≤maxLen) (ha:a.length≤1048576) (hb:b.length≤1048576) :
    Calls Try.prog 5 #[.slice p a.length c,.slice q b.length d] w fun e w'=>e=.returned (.bool true)∧Below w.heap.size w w':=by
  have hma:a.length≤maxLen:=by unfold maxLen;omega
  have hmb:b.length≤maxLen:=by unfold maxLen;omega
  have HA:=Lib.hid (fun (W:World) (h:Below w.heap.size w W)=>hpa.below h (Nat.le_refl _) h.size)
  have HB:=Lib.hid (fun (W:World) (h:Below w.heap.size w W)=>hqb.below h (Nat.le_refl _) h.size)
  have hra:=rowIn_bytes hp hpa
  have HRB:=Lib.hid (fun (W:World) (h:Below w.heap.size w W)=>rowIn_bytes (c:=d) hq (hqb.below h (Nat.le_refl _) h.size))
  have HLE:=Lib.hid (fun (W:World) (h:Below w.heap.size w W)=>lent_any p c a hp (by omega) W (hpa.below h (Nat.le_refl _) h.size))
  have HREF:=Lib.hid (fun (W:World) (q:Option Addr) (c:Nat) (h:ByIn W.heap.size W q (a++b))=>refSum_any (c:=c) (a++b) h (bytesL_append hxa hxb) (by rw [List.length_append];unfold maxLen;omega))
  have HREFA:=Lib.hid (fun (W:World) (h:Below w.heap.size w W)=>refSum_any (w:=W) (c:=c) a (hpa.below h (Nat.le_refl _) h.size) hxa hma)
  have HREFB:=Lib.hid (fun (W:World) (h:Below w.heap.size w W)=>refSum_any (w:=W) (c:=d) b (hqb.below h (Nat.le_refl _) h.size) hxb hmb)
  have HS2:=Lib.hid (fun (W:World) (g cx:Nat) (hx:ByIn W.heap.size W (some ⟨g,0,none⟩) a) (hy:ByIn W.heap.size W q b)=>show Calls Try.prog 23 #[.slice (some ⟨W.heap.size,0,none⟩) 2 2] (W.alloc (.cells #[.slice (some ⟨g,0,none⟩) a.length cx,.slice q b.length d] 28)) (fun e w'=>e=.returned (.int .u64 ((sumF sum0 (a++b):Nat):Int))∧w'=W.alloc (.cells #[.slice (some ⟨g,0,none⟩) a.length cx,.slice q b.length d] 28)) from by
    have h1:=pts_rows (w:=W) 28 [(some ⟨g,0,none⟩,cx,a),(q,d,b)] (by
      intro x hx'
      simp only [List.mem_cons,List.not_mem_nil,or_false] at hx'
      rcases hx' with rfl | rfl
      · exact ⟨hx,hxa,hma⟩
      · exact ⟨hy,hxb,hmb⟩)
    have:=Sum_any (cp:=2) _ h1 (by simp [maxLen])
    simpa using this)
  have HS1:=Lib.hid (fun (W:World) (h:Below w.heap.size w W)=>show Calls Try.prog 23 #[.slice (some ⟨W.heap.size,0,none⟩) 1 1] (W.alloc (.cells #[.slice q b.length d] 28)) (fun e w'=>e=.returned (.int .u64 ((sumF sum0 b:Nat):Int))∧w'=W.alloc (.cells #[.slice q b.length d] 28)) from by
    have:=Sum_any (cp:=1) _ (pts_one (c:=d) (hqb.below h (Nat.le_refl _) h.size) hxb hmb) (by simp [maxLen])
    simpa using this)
  have HS3:=Lib.hid (fun (W:World) (g cx:Nat) (hx:ByIn W.heap.size W (some ⟨g,0,none⟩) a)=>show Calls Try.prog 23 #[.slice (some ⟨W.heap.size,0,none⟩) 3 3] (W.alloc (.cells #[.slice none 0 0,.slice (some ⟨g,0,none⟩) a.length cx,.slice none 0 0] 28)) (fun e w'=>e=.returned (.int .u64 ((sumF sum0 a:Nat):Int))∧w'=W.alloc (.cells #[.slice none 0 0,.slice (some ⟨g,0,none⟩) a.length cx,.slice none 0 0] 28)) from by
    have h1:=pts_rows (w:=W) 28 [(none,0,[]),(some ⟨g,0,none⟩,cx,a),(none,0,[])] (by
      intro x hx'
      simp only [List.mem_cons,List.not_mem_nil,or_false] at hx'
      rcases hx' with rfl | rfl | rfl
      · exact ⟨ByIn.nil _ _ _,fun y (hy:y ∈ [])=>absurd hy (by simp),by simp⟩
      · exact ⟨hx,hxa,hma⟩
      · exact ⟨ByIn.nil _ _ _,fun y (hy:y ∈ [])=>absurd hy (by simp),by simp⟩)
    have:=Sum_any (cp:=3) _ h1 (by simp [maxLen])
    simpa using this)
  have HKP:=Lib.hid (fun (W:World) (g cap:Nat) (h:Below w.heap.size w W) (h1:ByIn W.heap.size W (some ⟨g,0,none⟩) a) (h2:W.cell? ⟨g,a.length,none⟩=some (.int .u8 201)) (h3:g<W.heap.size) (h4:a.length+1≤cap) (h5:cap≤maxLen)=>kept_any g p cap c a h4 h5 W h1 (hpa.below h (Nat.le_refl _) h.size) h3 h2)
  clear hp hpa hxa hq hqb hxb hma hmb
  obtain ⟨SA,hSA⟩:∃ S,sumF sum0 a=S:=⟨_,rfl⟩
  obtain ⟨SB,hSB⟩:∃ S,sumF sum0 b=S:=⟨_,rfl⟩
  obtain ⟨SAB,hSAB⟩:∃ S,sumF sum0 (a++b)=S:=⟨_,rfl⟩
  rw [hSA] at HREFA HS3
  rw [hSB] at HREFB HS1
  rw [hSAB] at HREF HS2
  clear hSA hSB hSAB
  obtain ⟨na,hna⟩:∃ n,a.length=n:=⟨_,rfl⟩
  obtain ⟨nb,hnb⟩:∃ n,b.length=n:=⟨_,rfl⟩
  obtain ⟨N,hN⟩:∃ N,(a++b).length=N:=⟨_,rfl⟩
  have HNN:=Lib.hid hN
  rw [hN] at HREF
  clear hN
  have HNA:=Lib.hid hna
  have HNB:=Lib.hid hnb
  rw [hna] at ha hra HLE HREFA HS2 HS3 HKP ⊢
  rw [hnb] at hb HRB HREFB HS1 HS2 ⊢
  clear hna hnb
  go_enter Try.func5,Try.ntmps5
  go_wp2_with (at_builtin;refine wpList_app rfl _ _ 28 rfl w.heap.size 5 (.int .u8 0) 1 1 Try.underlying28 info5 rfl (by decide) _ 0 [] rfl (World.ownsRow_nil _ _ _ _) p na c (bv a) rfl hra (by unfold maxLen;omega) (by omega) (Nat.le_refl _) ?_)
  intro v1 w1 hR1 hg1
  have hb1:Below w.heap.size w w1:=below_own hg1 (Nat.le_refl _) (fun k hk=>by cases hk)
  have hrb:=HRB.out w1 hb1
  clear hg1 hra
  go_wp2_with (at_builtin;refine wpList_app rfl _ _ 28 rfl w.heap.size 5 (.int .u8 0) 1 1 Try.underlying28 info5 rfl (by decide) _ _ _ rfl hR1 q nb d (bv b) rfl hrb (by unfold maxLen;omega) (by omega) hb1.size ?_)
  intro v2 w2 hR2 hg2
  have hb2:Below w.heap.size w w2:=hb1.trans (below_own hg2 hb1.size (fun k hk=>(hR1.lt k hk).1))
  have HALL:=Lib.hid (show OwnB w.heap.size w2 v2 (a++b) from by
    unfold OwnB
    rw [List.length_append,HNA.out,HNB.out,bv_append]
    simpa using hR2)
  obtain ⟨q2,c2,rfl⟩:=HALL.out.slice
  rw [HNN.out] at HALL ⊢
  have HB2:=Lib.hid hb2
  clear hR1 hR2 hg2 hrb hb1 hb2
  go_wp2_with fail
  refine (HLE.out w2 HB2.out).mono ?_
  rintro e w3 ⟨g,cap,rfl,hg,hcap,hrow,hb3⟩
  have HROW:=Lib.hid hrow
  have HALL3:=Lib.hid (HALL.out.stay hb3)
  have HB3:=Lib.hid (bl_tr HB2.out hb3)
  have h9:=HROW.out
  rw [← HNA.out] at h9
  obtain ⟨x1,x2,x3,x4,x5⟩:=lent_row h9
  rw [HNA.out] at x2
  have X1:=Lib.hid (fun (W:World) (h:Below w3.heap.size w3 W)=>(⟨x1.below h (Nat.le_refl _) h.size,(h.cell (p:=⟨g,na,none⟩) x3).trans x2,Nat.lt_of_lt_of_le x3 h.size⟩:ByIn W.heap.size W (some ⟨g,0,none⟩) a∧W.cell? ⟨g,na,none⟩=some (.int .u8 201)∧g<W.heap.size))
  have X5:=Lib.hid x5
  clear h9 x1 x2 x3 x4 x5 hrow hb3 hg
  go_wp2_with fail
  refine (HS2.out w3 g cap (X1.out w3 (Below.refl _ _)).1 (HB.out w3 HB3.out)).mono ?_
  rintro e w4 ⟨rfl,hw4⟩
  have K4:=Lib.hid (show Below w3.heap.size w3 w4 from by rw [hw4];exact bl_al (Below.refl _ _) _)
  clear hw4
  have H4:=Lib.hid (HREF.out w4 q2 c2 (HALL3.out.stay K4.out).in)
  go_wp2_with fail
  refine H4.out.mono ?_
  rintro e w5 ⟨rfl,hw5⟩
  have hw6:=hw5.symm
  clear hw5
  subst hw6
  go_wp2_with fail
  refine (HS1.out w4 (bl_tr HB3.out K4.out)).mono ?_
  rintro e w6 ⟨rfl,hw6⟩
  have K6:=Lib.hid (show Below w3.heap.size w3 w6 from by rw [hw6];exact bl_al K4.out _)
  clear hw6
  have H6:=Lib.hid (HREFB.out w6 (bl_tr HB3.out K6.out))
  go_wp2_with fail
  refine H6.out.mono ?_
  rintro e w7 ⟨rfl,hw7⟩
  have hw8:=hw7.symm
  clear hw7
  subst hw8
  go_wp2_with fail
  refine (HS3.out w6 g cap (X1.out w6 K6.out).1).mono ?_
  rintro e w8 ⟨rfl,hw8⟩
  have K8:=Lib.hid (show Below w3.heap.size w3 w8 from by rw [hw8];exact bl_al K6.out _)
  clear hw8
  have H8:=Lib.hid (HREFA.out w8 (bl_tr HB3.out K8.out))
  go_wp2_with fail
  refine H8.out.mono ?_
  rintro e w9 ⟨rfl,hw9⟩
  have hw8:=hw9.symm
  clear hw9
  subst hw8
  go_wp2_with fail
  obtain ⟨y1,y2,y3⟩:=X1.out w8 K8.out
  refine (HKP.out w8 g cap (bl_tr HB3.out K8.out) y1 y2 y3 hcap X5.out).mono ?_
  rintro e w10 ⟨rfl,hb⟩
  have HB10:=Lib.hid (bl_tr (bl_tr HB3.out K8.out) hb)
  clear hb y1 y2 y3
  go_wp2_with (go_at_call 16;refine (awake_any _).mono ?_;rintro e w11 ⟨rfl,hb⟩)
  all_goals
    have HB11:=Lib.hid (bl_tr HB10.out hb)
    go_ret
    exact ⟨rfl,HB11.out⟩
end
end Go.Proofs.Ytbfkgcapkffecaa
