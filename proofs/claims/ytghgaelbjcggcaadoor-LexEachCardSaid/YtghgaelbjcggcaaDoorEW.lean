/- LexEach: the law's walk, in every memory in which the library's error lies. -/
import Derived.Test.YtghgaelbjcggcaaDoorEF
import Derived.Sort.CutIn
import Derived.Shelf.RegionOpen
namespace Go.Proofs.YtghgaelbjcggcaaDoor
open Go Go.RowKit

attribute [local go_sem] Oper.semAt_some

theorem seq_nil (gf : FuncId) (l : Array Value) (W : World) : Sem.run Tryd.prog (binOp .eql 26 (.func (.func gf) #[] l) .nilFunc) W = .ok (.bool false) W := by kernel_rfl

theorem pre_count {s : ByteArray} {ys : List It} {n : Nat} (h : ys.map (fun x => x.key.1) = (wordsR s).1) (hn : ys.length = n) : n ≤ 65537 := by
  have h1 := allItems_len s
  rw [allItems_R, itemsOf, ← h, List.length_append, List.length_map, List.length_map] at h1
  omega

set_option maxRecDepth 100000 in
set_option maxHeartbeats 4000000 in
theorem each_law (s : ByteArray) (u : Int) (hu : u ≤ 9223372036854775807) (w : World) (hE : Env w) :
    Calls Tryd.prog 3 #[.string s, .int .i64 u] w fun e w' => e = .returned (.bool true) ∧ Below w.heap.size w w' := by
  obtain ⟨gf, eg, hcall⟩ := each_res s
  have hElt := hE.lt
  have hw := Lib.hid (fun W => words_any s W)
  have hfn := seq_nil gf
  refine (callsIn_wide (n := 3)).1 ?_
  refine callsIn_of_wp_marks Tryd.func3 rfl trivial ?_ rfl
  simp only [Tryd.ntmps3, List.size_toArray, List.length_cons, List.length_nil, Nat.reduceAdd, Nat.reduceSub, Array.replicate_succ, Array.replicate_zero, List.push_toArray, List.append_toArray, List.nil_append, List.cons_append]
  gi_wp2_with fail
  refine ⟨trivial, ?_⟩
  gi_at_call 7
  refine (callsIn_wide.2 (hw.out _)).mono ?_
  rintro e w1 ⟨hb1, ys, q, c, hys, hy0, rfl, hrow⟩
  have a1 := (Boxed.new w 3 (.int .i64 u)).alloc (.cells #[.bool false] 4)
  have a2 := Boxed.new (w.alloc (.cells #[.int .i64 u] 3)) 4 (.bool false)
  rw [World.size_alloc] at a2
  have hB0 : Below w.heap.size w ((w.alloc (.cells #[.int .i64 u] 3)).alloc (.cells #[.bool false] 4)) := ((Below.refl _ w).alloc (Nat.le_refl _) _).alloc (by simp) _
  have hsz0 : ((w.alloc (.cells #[.int .i64 u] 3)).alloc (.cells #[.bool false] 4)).heap.size = w.heap.size + 1 + 1 := by simp
  generalize ((w.alloc (.cells #[.int .i64 u] 3)).alloc (.cells #[.bool false] 4)) = w0 at *
  have b1 := a1.kept (grown_of_below hb1) (by simp)
  have b2 := a2.kept (grown_of_below hb1) (by simp)
  have hB1 := hB0.trans (hb1.mono (by omega))
  have hs1 := hb1.size
  obtain ⟨hT, hqb⟩ := toks_row2 rfl hrow
  rw [hsz0] at hqb
  rw [hsz0] at hs1
  obtain ⟨n, hn⟩ : ∃ n, ys.length = n := ⟨_, rfl⟩
  rw [hn]
  obtain ⟨pl, hpl⟩ : ∃ pl, (wordsR s).2.1 = pl := ⟨_, rfl⟩
  obtain ⟨er, her⟩ : ∃ er, (wordsR s).2.2 = er := ⟨_, rfl⟩
  rw [hpl, her]
  have HA := Lib.hid (ans_of hys hn hpl her)
  have hM := pre_count hys hn
  clear a1 a2 hB0 hsz0 hb1 hrow hn hys hy0 hpl her hw
  gi_wp2_with fail
  refine ⟨trivial, ?_⟩
  gi_at_call 8
  refine (callsIn_wide.2 (hcall _)).mono ?_
  rintro e w3 ⟨lb, rfl, hb3, hseq⟩
  have d1 := ((b1.alloc (.cells #[.slice q n c] 22)).alloc (.cells #[.int .i64 (pl : Nat)] 3)).alloc (.cells #[.int .i64 (er : Nat)] 3)
  have d2 := ((b2.alloc (.cells #[.slice q n c] 22)).alloc (.cells #[.int .i64 (pl : Nat)] 3)).alloc (.cells #[.int .i64 (er : Nat)] 3)
  have d3 := ((Boxed.new w1 22 (.slice q n c)).alloc (.cells #[.int .i64 (pl : Nat)] 3)).alloc (.cells #[.int .i64 (er : Nat)] 3)
  have d4 := (Boxed.new (w1.alloc (.cells #[.slice q n c] 22)) 3 (.int .i64 (pl : Nat))).alloc (.cells #[.int .i64 (er : Nat)] 3)
  have d5 := Boxed.new ((w1.alloc (.cells #[.slice q n c] 22)).alloc (.cells #[.int .i64 (pl : Nat)] 3)) 3 (.int .i64 (er : Nat))
  simp only [World.size_alloc] at d4 d5
  have hB2 : Below w.heap.size w (((w1.alloc (.cells #[.slice q n c] 22)).alloc (.cells #[.int .i64 (pl : Nat)] 3)).alloc (.cells #[.int .i64 (er : Nat)] 3)) := ((hB1.alloc hB1.size _).alloc (by have := hB1.size; simp; omega) _).alloc (by have := hB1.size; simp; omega) _
  have hb12 : Below w1.heap.size w1 (((w1.alloc (.cells #[.slice q n c] 22)).alloc (.cells #[.int .i64 (pl : Nat)] 3)).alloc (.cells #[.int .i64 (er : Nat)] 3)) := (((Below.refl _ w1).alloc (Nat.le_refl _) _).alloc (by simp) _).alloc (by simp; omega) _
  have hsz2 : (((w1.alloc (.cells #[.slice q n c] 22)).alloc (.cells #[.int .i64 (pl : Nat)] 3)).alloc (.cells #[.int .i64 (er : Nat)] 3)).heap.size = w1.heap.size + 1 + 1 + 1 := by simp
  generalize (((w1.alloc (.cells #[.slice q n c] 22)).alloc (.cells #[.int .i64 (pl : Nat)] 3)).alloc (.cells #[.int .i64 (er : Nat)] 3)) = w2 at *
  have e1 := d1.kept (grown_of_below hb3) (by simp)
  have e2 := d2.kept (grown_of_below hb3) (by simp)
  have e3 := d3.kept (grown_of_below hb3) (by simp)
  have e4 := d4.kept (grown_of_below hb3) (by simp)
  have e5 := d5.kept (grown_of_below hb3) (by simp)
  have hB3 := hB2.trans (hb3.mono hB2.size)
  have hT3 := (hT.below hb12 (Nat.le_refl _)).below hb3 (Nat.le_refl _)
  have hs3 := hb3.size
  rw [hsz2] at hs3
  generalize w1.heap.size = g at *
  have HS2 := Lib.hid hsz2
  clear d1 d2 d3 d4 d5 b1 b2 hB1 hb12 hsz2 hB2 hb3 hT
  have hK3 : ∀ b, g + 1 + 1 + 1 ≤ b → b < w3.heap.size → w3.heap[b]? = w3.heap[b]? := fun _ _ _ => rfl
  obtain ⟨v, hv1, hv2, hvu⟩ : ∃ v : Int, 1 ≤ v ∧ v ≤ 9223372036854775807 ∧ v = if u < 1 then 1 else u := by
    by_cases h : u < 1
    · exact ⟨1, by omega, by omega, by rw [if_pos h]⟩
    · exact ⟨u, by omega, by omega, by rw [if_neg h]⟩
  have c1 := e1.cell
  have f1 := e1.frozen
  have HVU := Lib.hid hvu
  clear hvu
  gi_upto_if 26 with (fail)
  gi_cut [] from 98 (fun wx => (Boxed wx w.heap.size 3 (.int .i64 v) ∧ Boxed wx (w.heap.size + 1) 4 (.bool false) ∧ Boxed wx g 22 (.slice q n c) ∧ Boxed wx (g + 1) 3 (.int .i64 (pl : Nat)) ∧ Boxed wx (g + 1 + 1) 3 (.int .i64 (er : Nat))) ∧ ToksIn wx q ys ∧ Below w.heap.size w wx ∧ w3.heap.size = wx.heap.size ∧ ∀ b, g + 1 + 1 + 1 ≤ b → b < w3.heap.size → wx.heap[b]? = w3.heap[b]?)
  case first =>
    have hk1 : ∀ b, g + 1 + 1 + 1 ≤ b → b < w3.heap.size → (w3.setCell ⟨w.heap.size, 0, none⟩ (.int .i64 1)).heap[b]? = w3.heap[b]? := fun b h1 _ => Below.heap_setCell w3 ⟨w.heap.size, 0, none⟩ _ b (by show b ≠ w.heap.size; omega)
    have ht1 := toks_set (B := w.heap.size) hT3 (fun b h1 h2 => by have := hqb b h1 h2; omega) (.int .i64 1)
    have g1 := e1.set (.int .i64 1)
    have g2 := e2.other (B' := w.heap.size) (by omega) (.int .i64 1)
    have g3 := e3.other (B' := w.heap.size) (by omega) (.int .i64 1)
    have g4 := e4.other (B' := w.heap.size) (by omega) (.int .i64 1)
    have g5 := e5.other (B' := w.heap.size) (by omega) (.int .i64 1)
    have hB4 := hB3.setCell (p := ⟨w.heap.size, 0, none⟩) (Nat.le_refl _) (.int .i64 1)
    have HK1 := Lib.hid hk1
    have HK3 := Lib.hid hK3
    clear hk1 hK3 hfn
    by_cases hlow : u < 1
    · have hv : v = 1 := by rw [HVU.out, if_pos hlow]
      subst hv
      gi_wp2
      gi_meet
      exact ⟨⟨g1, g2, g3, g4, g5⟩, ht1, hB4, by simp, HK1.out⟩
    · have hv : v = u := by rw [HVU.out, if_neg hlow]
      subst hv
      gi_wp2
      gi_meet
      exact ⟨⟨e1, e2, e3, e4, e5⟩, hT3, hB3, rfl, fun _ _ _ => rfl⟩
  case rest =>
    obtain ⟨⟨k1, k2, k3, k4, k5⟩, hTc, hBc, hszc, hKc⟩ := hcut
    clear e1 e2 e3 e4 e5 hT3 hB3 c1 f1 hK3
    have HKC := Lib.hid hKc
    have HSEQ := Lib.hid hseq
    have HFN := Lib.hid hfn
    have HSZC := Lib.hid hszc
    clear hKc hseq hfn hszc
    have c1 := k1.cell
    have bn := Boxed.new wc 3 (.int .i64 0)
    have hwl := k1.lt
    have k1' := k1.alloc (.cells #[.int .i64 0] 3)
    have hEn : Env (wc.alloc (.cells #[.int .i64 0] 3)) := hE.below (hBc.alloc hBc.size _) hElt
    have hKn : ∀ b, g + 1 + 1 + 1 ≤ b → b < w3.heap.size → (wc.alloc (.cells #[.int .i64 0] 3)).heap[b]? = w3.heap[b]? := fun b h1 h2 => (Below.heap_alloc wc _ b (by have := HSZC.out; omega)).trans (HKC.out b h1 h2)
    have HKN := Lib.hid hKn
    clear hKn
    gi_wp2_with fail
    refine wpIn_rangeFunc_ownF rfl (by omega) (gf := gf) (lb := lb) rfl trivial eg
      (HSEQ.out (3 - 1) wc.heap.size (wc.heap.size + 1) w.heap.size (wc.alloc (.cells #[.int .i64 0] 3)) (fun b h1 h2 => HKN.out b (by have := HS2.out; omega) h2) (by have := HSZC.out; simp; omega) (by omega) (by simp) (by simp) hEn (ptOk_int k1') (by simp; omega))
      (fun h k => h.trans k) (fun W l o o' h1 h2 h3 h4 => keep_b (by simp) (by simp; omega) W l o o' h1 h2 h3 h4) (Below.refl _ _) (fun _ => rfl)
      (fun pre W => (Boxed W wc.heap.size 3 (.int .i64 ((pre.length : Nat) : Int)) ∧ ((pre.length : Nat) : Int) < v) ∧ Below wc.heap.size wc W)
      (fun cc pre W => ((cc = .exit 0 ∧ ((pre.length : Nat) : Int) = v) ∧ Boxed W wc.heap.size 3 (.int .i64 v)) ∧ Below wc.heap.size wc W)
      (OwnFrom.and (OwnFrom.and (Own.from (boxed_own wc.heap.size 3 (fun (pre : List It) => Value.int .i64 ((pre.length : Nat) : Int))) _) (fun _ _ _ _ h _ _ => h)) (ownFrom_below (Nat.le_refl _) (by simp)))
      (fun cc => OwnFrom.and (OwnFrom.and (fun _ _ _ _ h _ _ => h) (Own.from (boxed_own wc.heap.size 3 (fun (_ : List It) => Value.int .i64 v)) _)) (ownFrom_below (Nat.le_refl _) (by simp)))
      ⟨⟨bn, by simp; omega⟩, (Below.refl _ _).alloc (Nat.le_refl _) _⟩
      (fun x => { tmps := #[.string s, .int .i64 u, undef, .pointer (some ⟨w.heap.size, 0, none⟩), .pointer (some ⟨w.heap.size + 1, 0, none⟩), .pointer (some ⟨g, 0, none⟩), .pointer (some ⟨g + 1, 0, none⟩), .pointer (some ⟨g + 1 + 1, 0, none⟩), .func (.func gf) #[] lb, .pointer (some ⟨wc.heap.size, 0, none⟩), undef, undef, undef, undef, undef, .tuple #[.slice q n c, .int .i64 (pl : Nat), .int .i64 (er : Nat)], .string s, .tuple #[.slice q n c, .int .i64 (pl : Nat), .int .i64 (er : Nat)], .slice q n c, .int .i64 (pl : Nat), .int .i64 (er : Nat), .string s, .func (.func gf) #[] lb, .func (.func gf) #[] lb, .bool false, .int .i64 u, .bool (decide (u < 1)), .func (.func gf) #[] lb, (tokV (x.k : Nat) x.t (x.v : Nat) (x.a : Nat)), .int .i64 (x.e : Nat), undef, undef, undef, undef, undef, undef, undef, undef, undef, undef, undef, undef, undef, undef, undef, undef, undef, undef, undef, undef, undef, undef, undef, undef, undef, undef, undef, undef, undef, undef, undef, undef, undef, undef, undef, undef, undef, undef, undef, undef, undef, undef, undef, undef, undef, undef, undef, undef, undef, undef, undef, undef, undef, undef, undef, undef, undef, undef, undef, undef, undef, undef, undef, undef, undef, undef, undef, undef], defers := [] }) ?assign ?body ?done ?stop
    case assign =>
      intro l x W K hK
      unfold It.enc
      gi_wp2
      exact hK
    case body =>
      rintro l pre x W ⟨⟨hb, hlt⟩, hBW⟩ hlen
      have h1 := (hBW.cell (p := ⟨w.heap.size, 0, none⟩) hwl).trans c1
      have hc := hb.cell
      have hf := hb.frozen
      have hl6 : pre.length ≤ 65537 := by have := allItems_len s; omega
      have HB := Lib.hid hBW
      have HX := Lib.hid hb
      clear hBW hb
      by_cases hv : ((pre.length : Nat) : Int) + 1 = v
      · have hvv : (((pre.length : Nat) : Int) + 1 == v) = true := by simpa using hv
        gi_wp2
        refine ⟨KeepsOthers.setCell _ _ _, ⟨⟨rfl, by rw [List.length_append, List.length_singleton]; omega⟩, ?_⟩, HB.out.setCell (p := ⟨wc.heap.size, 0, none⟩) (Nat.le_refl _) _⟩
        have := HX.out.set (.int .i64 (((pre.length : Nat) : Int) + 1))
        rw [hv] at this
        exact this
      · have hvv : (((pre.length : Nat) : Int) + 1 == v) = false := by simpa using hv
        gi_wp2
        refine ⟨KeepsOthers.setCell _ _ _, keep_set (Nat.le_refl _) (by omega) (by omega) _, ⟨?_, by rw [List.length_append, List.length_singleton]; omega⟩, HB.out.setCell (p := ⟨wc.heap.size, 0, none⟩) (Nat.le_refl _) _⟩
        rw [List.length_append, List.length_singleton]
        exact HX.out.set (.int .i64 (((pre.length : Nat) : Int) + 1))
    case done =>
      rintro D xs W hD hS ⟨⟨hb, hlt⟩, hBW⟩ hK
      have hxl : xs.length = n + if er = 0 then 0 else 1 := by
        have := congrArg List.length hS
        rwa [List.length_map, HA.out.count] at this
      obtain ⟨nn, hnn, hbn⟩ : ∃ nn : Int, (nn = v ∨ nn = ((n + if er = 0 then 0 else 1 : Nat) : Int)) ∧ Boxed W wc.heap.size 3 (.int .i64 nn) := ⟨_, .inr (by rw [hxl]), hb⟩
      clear hS hlt hb hxl
      rw [World.size_alloc] at hD
      have HD := Lib.hid hD
      have HNNV := Lib.hid hnn
      have HBW := Lib.hid hBW
      have HKD := Lib.hid hK
      have hDl : D < W.heap.size := heap_lt hK
      have hWs : wc.heap.size < W.heap.size := hbn.lt
      have HBN := Lib.hid hbn
      clear hD hnn hK hbn
      gi_wp2_with fail
      have hsW : (W.alloc (.cells #[.int .i64 0] 3)).heap.size = W.heap.size + 1 := World.size_alloc _ _
      have bk := (Boxed.new W 3 (.int .i64 0)).alloc (.cells #[.bool false] 4)
      have be := Boxed.new (W.alloc (.cells #[.int .i64 0] 3)) 4 (.bool false)
      rw [hsW] at be
      have hB5 : Below W.heap.size W ((W.alloc (.cells #[.int .i64 0] 3)).alloc (.cells #[.bool false] 4)) := ((Below.refl _ W).alloc (Nat.le_refl _) _).alloc (by simp) _
      have hsz5 : ((W.alloc (.cells #[.int .i64 0] 3)).alloc (.cells #[.bool false] 4)).heap.size = W.heap.size + 1 + 1 := by simp
      generalize ((W.alloc (.cells #[.int .i64 0] 3)).alloc (.cells #[.bool false] 4)) = w5 at *
      have HS5 := Lib.hid hsz5
      have hBc5 : Below wc.heap.size wc w5 := hBW.trans (hB5.mono (by omega))
      have m1 := box_below k1 hBc5 hwl
      have m2 := box_below k2 hBc5 k2.lt
      have m3 := box_below k3 hBc5 k3.lt
      have m4 := box_below k4 hBc5 k4.lt
      have m5 := box_below k5 hBc5 k5.lt
      have mn := box_below HBN.out hB5 HBN.out.lt
      have hBw5 : Below w.heap.size w w5 := hBc.trans (hBc5.mono hBc.size)
      have hT5 := hTc.below hBc5 (Nat.le_refl _)
      have HK5 := Lib.hid (fun b (h1 : g + 1 + 1 + 1 ≤ b) (h2 : b < w3.heap.size) => (show w5.heap[b]? = w3.heap[b]? from (hBc5.block b (by have := HSZC.out; omega)).trans (HKC.out b h1 h2)))
      have HBw5 := Lib.hid hBw5
      have HD5 := Lib.hid (show w5.heap[D]? = some (.deferred (some [])) from (hB5.block D hDl).trans HKD.out)
      have HT5 := Lib.hid hT5
      clear hsz5 hBW hB5 hBw5 hT5 hsW
      refine wpIn_rangeFunc_ownH rfl (by omega) (gf := gf) (lb := lb) rfl trivial eg
        (HSEQ.out (3 - 1) W.heap.size w5.heap.size w.heap.size w5 (fun b h1 h2 => HK5.out b (by have := HS2.out; omega) h2) (by have := HSZC.out; have := hBc5.size; omega) (by omega) (by have := HS5.out; omega) (Nat.le_refl _) (hE.below HBw5.out hElt) (ptOk_int m1) m1.lt)
        (fun h k => h.trans k) (fun W' l o o' h1 h2 h3 h4 => keep_b (by have := HS5.out; omega) m1.lt W' l o o' h1 h2 h3 h4) (Below.refl _ _) (fun _ => rfl)
        (fun pre W' => ((Boxed W' W.heap.size 3 (.int .i64 ((min pre.length n : Nat) : Int)) ∧ Boxed W' (W.heap.size + 1) 4 (.bool (decide (n < pre.length)))) ∧ pre.map It.key <+: allItems s) ∧ Below W.heap.size w5 W')
        (fun cc pre _ => cc = .ret ∧ ¬ pre.map It.key <+: allItems s)
        (OwnFrom.and (OwnFrom.and (OwnFrom.and (Own.from (boxed_own W.heap.size 3 (fun (pre : List It) => Value.int .i64 ((min pre.length n : Nat) : Int))) _) (Own.from (boxed_own (W.heap.size + 1) 4 (fun (pre : List It) => Value.bool (decide (n < pre.length)))) _)) (fun _ _ _ _ h _ _ => h)) (ownFrom_below (by have := HS5.out; omega) (by have := HS5.out; omega)))
        (fun _ _ _ _ _ h _ _ => h)
        ⟨⟨⟨by simpa using bk, by simpa using be⟩, List.nil_prefix⟩, Below.refl _ _⟩
        (fun x a' W' => ∃ gt, TokB W' gt (x.k : Nat) x.t (x.v : Nat) (x.a : Nat) ∧ a' = { tmps := #[.string s, .int .i64 u, undef, .pointer (some ⟨w.heap.size, 0, none⟩), .pointer (some ⟨w.heap.size + 1, 0, none⟩), .pointer (some ⟨g, 0, none⟩), .pointer (some ⟨g + 1, 0, none⟩), .pointer (some ⟨g + 1 + 1, 0, none⟩), .func (.func gf) #[] lb, .pointer (some ⟨wc.heap.size, 0, none⟩), .pointer (some ⟨W.heap.size, 0, none⟩), .pointer (some ⟨W.heap.size + 1, 0, none⟩), .pointer (some ⟨gt, 0, none⟩), .int .i64 (x.e : Nat), undef, .tuple #[.slice q n c, .int .i64 (pl : Nat), .int .i64 (er : Nat)], .string s, .tuple #[.slice q n c, .int .i64 (pl : Nat), .int .i64 (er : Nat)], .slice q n c, .int .i64 (pl : Nat), .int .i64 (er : Nat), .string s, .func (.func gf) #[] lb, .func (.func gf) #[] lb, .bool false, .int .i64 u, .bool (decide (u < 1)), .func (.func gf) #[] lb, undef, undef, undef, undef, undef, undef, undef, .func (.func gf) #[] lb, (tokV (x.k : Nat) x.t (x.v : Nat) (x.a : Nat)), .int .i64 (x.e : Nat), undef, undef, undef, undef, undef, undef, undef, undef, undef, undef, undef, undef, undef, undef, undef, undef, undef, undef, undef, undef, undef, undef, undef, undef, undef, undef, undef, undef, undef, undef, undef, undef, undef, undef, undef, undef, undef, undef, undef, undef, undef, undef, undef, undef, undef, undef, undef, undef, undef, undef, undef, undef, undef, undef, undef, undef, undef, undef, undef, undef], defers := [] })
        (fun x a' _ X Y row hs hg hr => by obtain ⟨gt, h2, h3⟩ := hs; exact ⟨gt, tokB_own gt _ _ _ _ () X Y row h2 hg (fun r e => (hr r e).2), h3⟩)
        ?assign2 ?body2 ?done2 ?stop2
      case assign2 =>
        rintro l pre x W' K hI hK
        obtain ⟨⟨⟨i1, i2⟩, i3⟩, i4⟩ := hI
        have hK2 := Lib.hid hK
        clear hK
        unfold It.enc
        gi_wp2
        have hs4 := i4.size
        exact hK2.out _ _ ((KeepsOthers.alloc _ _).from _) (keep_alloc (by have := HS5.out; omega) (by have := m1.lt; omega) _) ⟨⟨⟨i1.alloc _, i2.alloc _⟩, i3⟩, i4.alloc (by have := HS5.out; omega) _⟩ ⟨W'.heap.size, World.alloc_heap_new W' _, rfl⟩
      case body2 =>
        rintro l pre x a' W' _ _ hI ⟨gt, hTt, rfl⟩ hlen
        obtain ⟨⟨⟨i1, i2⟩, i3⟩, i4⟩ := hI
        have hs4 := i4.size
        have p2 := box_below m2 i4 (by have := k2.lt; omega)
        have p3 := box_below m3 i4 (by have := k3.lt; omega)
        have p4 := box_below m4 i4 (by have := k4.lt; omega)
        have p5 := box_below m5 i4 (by have := k5.lt; omega)
        have hTW := hTc.below (hBc5.trans (i4.mono (by omega))) (Nat.le_refl _)
        have cI1 := i1.cell
        have fI1 := i1.frozen
        have cI2 := i2.cell
        have fI2 := i2.frozen
        have cp2 := p2.cell
        have fp2 := p2.frozen
        have cp3 := p3.cell
        have cp4 := p4.cell
        have cp5 := p5.cell
        obtain ⟨t0, t1, t2, t3, _, _, _, _⟩ := hTt.at_
        have HPRE := Lib.hid i3
        have HP2 := Lib.hid p2
        have HTW := Lib.hid hTW
        have HI1 := Lib.hid i1
        have HI2 := Lib.hid i2
        have HI4 := Lib.hid i4
        have hkr : w.heap.size + 1 < W'.heap.size := p2.lt
        clear i1 i2 i3 i4 p2 p3 p4 p5 hTt hTW
        rcases Nat.lt_trichotomy pre.length n with hL | hL | hL
        · have hmin : min pre.length n = pre.length := by omega
          have hdec : decide (n < pre.length) = false := decide_eq_false (by omega)
          rw [hmin] at cI1
          rw [hdec] at cI2
          obtain ⟨gq, rfl, hgq, y0, y1, y2, y3⟩ := HTW.out pre.length (by rw [HA.out.len]; exact hL)
          have HNX := Lib.hid (next_word (x := x) HA.out HPRE.out (by rw [HA.out.len]; exact hL))
          generalize ys[pre.length]'(by rw [HA.out.len]; exact hL) = y at *
          have hki : ((pre.length : Nat) : Int) < (n : Int) := by omega
          obtain ⟨bad, hbad⟩ : ∃ bad : Bool, bad = (decide (x.e ≠ 0) || !sameB x y) := ⟨_, rfl⟩
          have HBAD := Lib.hid hbad
          clear hbad
          have hmo : Tryd.prog.follows .mixedOrders = true := by kernel_rfl
          gi_upto_region 19 with (fail)
          gi_cut [53] from 98 (fun r wx => r = .bool bad ∧ Below W'.heap.size W' wx)
          case first =>
            as_aux_lemma =>
              by_cases hx0 : x.e = 0
              · have hxb : (((x.e : Nat) : Int) != 0) = false := by rw [hx0]; rfl
                have hsm0 := fun W9 => same_any x y W9
                have HB2 : Hid (bad = !sameB x y) := Lib.hid (by rw [HBAD.out, decide_eq_false (fun h => h hx0)]; rfl)
                generalize sameB x y = sb at *
                have hsm := Lib.hid hsm0
                clear hx0 hsm0
                gi_region_with_o ((refine ⟨trivial, ?_⟩; gi_at_call 9; refine (CallsIn.inRound l (callsIn_wide.2 (hsm.out _))).mono ?_; rintro e w7 ⟨rfl, hb7⟩))
                all_goals (gi_wp2; gi_meet; exact ⟨by rw [HB2.out], below_of_drew hb7⟩)
              · have hxb : (((x.e : Nat) : Int) != 0) = true := by simp; omega
                have HB2 : Hid (bad = true) := Lib.hid (by rw [HBAD.out, decide_eq_true hx0]; rfl)
                clear hx0
                gi_region_with_o (first | refine ⟨trivial, ?_⟩ | refine ⟨fun _ h => (by cases h), ?_⟩)
                all_goals (gi_wp2; gi_meet; exact ⟨by rw [HB2.out], (Below.refl _ _).drew⟩)
          case rest =>
            rename_i wx
            obtain ⟨rfl, hb6⟩ := hcut
            have r2 := box_below HP2.out hb6 hkr
            have r1 := box_below HI1.out hb6 HI1.out.lt
            have r3 := box_below HI2.out hb6 HI2.out.lt
            have s2 := r2.cell
            have q2 := r2.frozen
            have s1 := r1.cell
            have q1 := r1.frozen
            rw [hmin] at s1
            have HB6 := Lib.hid hb6
            clear hb6 r2 cI1 fI1 cI2 fI2 cp2 fp2 cp3 cp4 cp5 t0 t1 t2 t3 y0 y1 y2 y3
            have R1 := Lib.hid r1
            have R3 := Lib.hid r3
            clear r1 r3
            cases bad
            · have hok : x.e = 0 ∧ sameB x y = true := by
                have := HBAD.out
                by_cases hx0 : x.e = 0
                · rw [decide_eq_false (fun h => h hx0), Bool.false_or] at this
                  exact ⟨hx0, by cases hh : sameB x y <;> simp [hh] at this ⊢⟩
                · rw [decide_eq_true hx0] at this
                  exact absurd this (by simp)
              have HPX := Lib.hid (HNX.out.2 hok)
              clear hok
              have hminS : min (pre ++ [x]).length n = pre.length + 1 := by rw [List.length_append, List.length_singleton]; omega
              have hdecS : decide (n < (pre ++ [x]).length) = false := decide_eq_false (by rw [List.length_append, List.length_singleton]; omega)
              have hsz6 := HB6.out.size
              gi_wp2
              have hR3' := R3.out
              rw [hdec] at hR3'
              have hI4' := (HI4.out.trans (HB6.out.mono (by have := HS5.out; omega))).setCell (p := ⟨W.heap.size, 0, none⟩) (Nat.le_refl _) (.int .i64 (((pre.length : Nat) : Int) + 1))
              refine ⟨((keeps_of_below HB6.out).trans (KeepsOthers.setCell _ _ _)).from _, (keep_grow (by have := HS5.out; omega) (by have := m1.lt; omega) HB6.out).trans (keep_set (Nat.le_refl _) (by have := HS5.out; omega) (by omega) _), ⟨⟨⟨?_, ?_⟩, HPX.out⟩, hI4'⟩⟩
              · rw [hminS]; exact R1.out.set _
              · rw [hdecS]; exact hR3'.other (by omega) _
            · have hno : ¬ (x.e = 0 ∧ sameB x y = true) := by
                rintro ⟨h1, h2⟩
                have := HBAD.out
                rw [decide_eq_false (fun h => h h1), h2] at this
                exact absurd this (by simp)
              have HPX := Lib.hid (fun h => hno (HNX.out.1 h))
              clear hno
              gi_wp2
              exact ⟨((keeps_of_below HB6.out).trans (KeepsOthers.setCell _ _ _)).from _, rfl, HPX.out⟩
        · have hmin : min pre.length n = n := by omega
          have hdec : decide (n < pre.length) = false := decide_eq_false (by omega)
          rw [hmin] at cI1
          rw [hdec] at cI2
          by_cases her : er = 0
          · subst her
            have HNX := Lib.hid (next_none (x := x) HA.out (show n + (if 0 = 0 then 0 else 1) ≤ pre.length by rw [if_pos rfl]; omega))
            gi_wp2
            exact ⟨(KeepsOthers.setCell _ _ _).from _, rfl, HNX.out⟩
          · have HNX := Lib.hid (next_err (x := x) HA.out HPRE.out hL her)
            have hmS : min (pre ++ [x]).length n = n := by rw [List.length_append, List.length_singleton]; omega
            have hdS : decide (n < (pre ++ [x]).length) = true := decide_eq_true (by rw [List.length_append, List.length_singleton]; omega)
            have HMS := Lib.hid hmS
            have HDS := Lib.hid hdS
            clear hmS hdS
            gi_wp2
            all_goals first
              | (refine ⟨(KeepsOthers.setCell _ _ _).from _, rfl, fun hh => ?_⟩
                 obtain ⟨z1, z2, z3, z4, z5⟩ := HNX.out.1 hh
                 first
                 | exact absurd (show ((x.e : Nat) : Int) = ((er : Nat) : Int) by rw [z1]) (by assumption)
                 | exact absurd z2 (by assumption)
                 | exact absurd (toList_nil z3) (by assumption)
                 | exact absurd z4 (by assumption)
                 | exact absurd (show ((x.a : Nat) : Int) = ((pl : Nat) : Int) by rw [z5]) (by assumption))
              | (rename_i q1 q2 q3 q4 q5 q6
                 refine ⟨(KeepsOthers.setCell _ _ _).from _, keep_set (by omega) (by have := HS5.out; omega) (by omega) _, ⟨⟨⟨?_, ?_⟩, HNX.out.2 ⟨Int.ofNat.inj q1, q2, nil_of_toList q3, q4, Int.ofNat.inj q5⟩⟩, HI4.out.setCell (p := ⟨W.heap.size + 1, 0, none⟩) (by simp) _⟩⟩
                 · rw [HMS.out]
                   have := HI1.out
                   rw [hmin] at this
                   exact this.other (by omega) _
                 · rw [HDS.out]
                   exact HI2.out.set _)
        · have hdec : decide (n < pre.length) = true := decide_eq_true hL
          rw [hdec] at cI2
          have hpl := pre_len HA.out HPRE.out
          have HNX := Lib.hid (next_none (x := x) HA.out (show n + (if er = 0 then 0 else 1) ≤ pre.length by split <;> omega))
          clear hpl
          gi_wp2
          exact ⟨(KeepsOthers.setCell _ _ _).from _, rfl, HNX.out⟩
      case done2 =>
        rintro D2 xs W' hD2 hS2 ⟨⟨⟨i1, i2⟩, i3⟩, i4⟩ hK2
        have hxl : xs.length = n + if er = 0 then 0 else 1 := by
          have := congrArg List.length hS2
          rwa [List.length_map, HA.out.count] at this
        have hmn : min xs.length n = n := by rw [hxl]; split <;> omega
        have hdn : decide (n < xs.length) = decide (er ≠ 0) := by rw [hxl]; by_cases h : er = 0 <;> simp [h]
        rw [hmn] at i1
        rw [hdn] at i2
        have hs4 := i4.size
        have hs5 := HS5.out
        have hwW : w.heap.size + 1 < wc.heap.size := k2.lt
        have hgW : g < wc.heap.size := k3.lt
        have hg2W : g + 1 + 1 < wc.heap.size := k5.lt
        have hl2 : D2 < W'.heap.size := heap_lt hK2
        have p1 := (box_below m1 i4 (by omega)).cell
        have p2 := (box_below m2 i4 (by omega)).cell
        have u2 := (box_below m2 i4 (by omega)).frozen
        have p3 := (box_below m3 i4 (by omega)).cell
        have p5 := (box_below m5 i4 (by omega)).cell
        have pn := (box_below mn i4 hWs).cell
        have pk := i1.cell
        have pe := i2.cell
        have hD1 : W'.heap[D]? = some (.deferred (some [])) := (i4.block D hDl).trans HD5.out
        have hBW' : Below w.heap.size w W' := HBw5.out.trans (i4.mono (by omega))
        have haw := Lib.hid (awake_any W' (hE.below hBW' hElt))
        have hmx := hM
        have hDD : D ≠ D2 := by omega
        have hDw : w.heap.size ≤ D := by have := HD.out; omega
        clear i1 i2 i3 i4 hS2 hxl hmn hdn m1 m2 m3 m4 m5 mn k1 k2 k3 k4 k5 hTc hBc c1
        have hcase : ∃ ez : Bool, ((((er : Nat) : Int) != 0) = ez ∧ decide (er ≠ 0) = ez) ∧ (nn = v ∨ nn = if ez then (n : Int) + 1 else (n : Int)) := by
          by_cases h : er = 0
          · subst h
            exact ⟨false, ⟨rfl, rfl⟩, by simpa using HNNV.out⟩
          · refine ⟨true, ⟨by simpa using h, by simpa using h⟩, ?_⟩
            have := HNNV.out
            rw [if_neg h] at this
            simpa using this
        obtain ⟨ez, ⟨e1, e2⟩, hnn⟩ := hcase
        rw [e2] at pe
        have hcs : ((nn == v) = true) ∨ ((nn == v) = false ∧ (nn == if ez then (n : Int) + 1 else (n : Int)) = true) := by
          by_cases h : nn = v
          · exact .inl (by simpa using h)
          · exact .inr ⟨by simpa using h, by simpa using hnn.resolve_left h⟩
        clear hnn e2
        cases ez
        all_goals
          rcases hcs with hq1 | ⟨hq1, hq2⟩
          all_goals
            try simp only [Bool.false_eq_true, ↓reduceIte] at hq2
            gi_wp2_with fail
            refine ⟨trivial, ?_⟩
            gi_at_call 10
            refine (callsIn_wide.2 haw.out).mono ?_
            rintro e w11 ⟨rfl, hb11⟩
            have o2 := (hb11.cell (p := ⟨w.heap.size + 1, 0, none⟩) (by show w.heap.size + 1 < _; omega)).trans p2
            have o3 := (hb11.frozen (p := ⟨w.heap.size + 1, 0, none⟩) (by show w.heap.size + 1 < _; omega)).trans u2
            have q3 := (hb11.block D (by omega)).trans hD1
            have q4 := (hb11.block D2 (by omega)).trans hK2
            have hs11 := hb11.size
            have hBW11 := hBW'.trans (hb11.mono (B' := w.heap.size) (by omega))
            clear p1 p2 u2 p3 p5 pn pk pe hD1 hK2 hb11 haw
            gi_wp2
            have q5 := (KeepsOthers.setCell w11 ⟨w.heap.size + 1, 0, none⟩ (.bool true)).same D _ q3 rfl
            have q6 := (KeepsOthers.setCell w11 ⟨w.heap.size + 1, 0, none⟩ (.bool true)).same D2 _ q4 rfl
            have q7 : ((w11.setCell ⟨w.heap.size + 1, 0, none⟩ (.bool true)).putObj D2 (.deferred none)).heap[D]? = some (.deferred (some [])) := (World.putObj_heap_other (by omega)).trans q5
            have r2 : (w11.setCell ⟨w.heap.size + 1, 0, none⟩ (.bool true)).cell? ⟨w.heap.size + 1, 0, none⟩ = some (.bool true) := World.cell?_setCell_same' _ _ _ (by rw [o2]; rfl)
            have r3 := cell_kept r2 (grownBy_putObj' _ D2 (.deferred none)) (fun r e => by cases e; exact ⟨_, q6, rfl⟩)
            have r4 := cell_kept r3 (grownBy_putObj' _ D (.deferred none)) (fun r e => by cases e; exact ⟨_, q7, rfl⟩)
            refine ⟨by simp, .inl ⟨_, _, rfl, run_takeDeferred q6, ⟨by simp, .inl ⟨_, _, rfl, run_takeDeferred q7, ?_⟩⟩⟩⟩
            exact ⟨_, results3 _ _ (w.heap.size + 1) true rfl r4, rfl, ((hBW11.setCell (p := ⟨w.heap.size + 1, 0, none⟩) (by simp) _).trans (belowK_b (w := w) (Nat.le_refl _) _ D2 _ _ (by omega) q6 rfl rfl)).trans (belowK_b (w := w) (Nat.le_refl _) _ D _ _ (by omega) q7 rfl rfl)⟩
      case stop2 =>
        rintro D2 cc pre W' _ hpre ⟨rfl, hno⟩ _
        exact absurd hpre hno
    case stop =>
      rintro D cc pre W hD _ ⟨⟨⟨rfl, _⟩, hb⟩, hBW⟩ hK
      obtain ⟨nn, hnn, hbn⟩ : ∃ nn : Int, (nn = v ∨ nn = ((n + if er = 0 then 0 else 1 : Nat) : Int)) ∧ Boxed W wc.heap.size 3 (.int .i64 nn) := ⟨_, .inl rfl, hb⟩
      clear hb
      rw [World.size_alloc] at hD
      have HD := Lib.hid hD
      have HNNV := Lib.hid hnn
      have HBW := Lib.hid hBW
      have HKD := Lib.hid hK
      have hDl : D < W.heap.size := heap_lt hK
      have hWs : wc.heap.size < W.heap.size := hbn.lt
      have HBN := Lib.hid hbn
      clear hD hnn hK hbn
      gi_wp2_with fail
      have hsW : (W.alloc (.cells #[.int .i64 0] 3)).heap.size = W.heap.size + 1 := World.size_alloc _ _
      have bk := (Boxed.new W 3 (.int .i64 0)).alloc (.cells #[.bool false] 4)
      have be := Boxed.new (W.alloc (.cells #[.int .i64 0] 3)) 4 (.bool false)
      rw [hsW] at be
      have hB5 : Below W.heap.size W ((W.alloc (.cells #[.int .i64 0] 3)).alloc (.cells #[.bool false] 4)) := ((Below.refl _ W).alloc (Nat.le_refl _) _).alloc (by simp) _
      have hsz5 : ((W.alloc (.cells #[.int .i64 0] 3)).alloc (.cells #[.bool false] 4)).heap.size = W.heap.size + 1 + 1 := by simp
      generalize ((W.alloc (.cells #[.int .i64 0] 3)).alloc (.cells #[.bool false] 4)) = w5 at *
      have HS5 := Lib.hid hsz5
      have hBc5 : Below wc.heap.size wc w5 := hBW.trans (hB5.mono (by omega))
      have m1 := box_below k1 hBc5 hwl
      have m2 := box_below k2 hBc5 k2.lt
      have m3 := box_below k3 hBc5 k3.lt
      have m4 := box_below k4 hBc5 k4.lt
      have m5 := box_below k5 hBc5 k5.lt
      have mn := box_below HBN.out hB5 HBN.out.lt
      have hBw5 : Below w.heap.size w w5 := hBc.trans (hBc5.mono hBc.size)
      have hT5 := hTc.below hBc5 (Nat.le_refl _)
      have HK5 := Lib.hid (fun b (h1 : g + 1 + 1 + 1 ≤ b) (h2 : b < w3.heap.size) => (show w5.heap[b]? = w3.heap[b]? from (hBc5.block b (by have := HSZC.out; omega)).trans (HKC.out b h1 h2)))
      have HBw5 := Lib.hid hBw5
      have HD5 := Lib.hid (show w5.heap[D]? = some (.deferred (some [])) from (hB5.block D hDl).trans HKD.out)
      have HT5 := Lib.hid hT5
      clear hsz5 hBW hB5 hBw5 hT5 hsW
      refine wpIn_rangeFunc_ownH rfl (by omega) (gf := gf) (lb := lb) rfl trivial eg
        (HSEQ.out (3 - 1) W.heap.size w5.heap.size w.heap.size w5 (fun b h1 h2 => HK5.out b (by have := HS2.out; omega) h2) (by have := HSZC.out; have := hBc5.size; omega) (by omega) (by have := HS5.out; omega) (Nat.le_refl _) (hE.below HBw5.out hElt) (ptOk_int m1) m1.lt)
        (fun h k => h.trans k) (fun W' l o o' h1 h2 h3 h4 => keep_b (by have := HS5.out; omega) m1.lt W' l o o' h1 h2 h3 h4) (Below.refl _ _) (fun _ => rfl)
        (fun pre W' => ((Boxed W' W.heap.size 3 (.int .i64 ((min pre.length n : Nat) : Int)) ∧ Boxed W' (W.heap.size + 1) 4 (.bool (decide (n < pre.length)))) ∧ pre.map It.key <+: allItems s) ∧ Below W.heap.size w5 W')
        (fun cc pre _ => cc = .ret ∧ ¬ pre.map It.key <+: allItems s)
        (OwnFrom.and (OwnFrom.and (OwnFrom.and (Own.from (boxed_own W.heap.size 3 (fun (pre : List It) => Value.int .i64 ((min pre.length n : Nat) : Int))) _) (Own.from (boxed_own (W.heap.size + 1) 4 (fun (pre : List It) => Value.bool (decide (n < pre.length)))) _)) (fun _ _ _ _ h _ _ => h)) (ownFrom_below (by have := HS5.out; omega) (by have := HS5.out; omega)))
        (fun _ _ _ _ _ h _ _ => h)
        ⟨⟨⟨by simpa using bk, by simpa using be⟩, List.nil_prefix⟩, Below.refl _ _⟩
        (fun x a' W' => ∃ gt, TokB W' gt (x.k : Nat) x.t (x.v : Nat) (x.a : Nat) ∧ a' = { tmps := #[.string s, .int .i64 u, undef, .pointer (some ⟨w.heap.size, 0, none⟩), .pointer (some ⟨w.heap.size + 1, 0, none⟩), .pointer (some ⟨g, 0, none⟩), .pointer (some ⟨g + 1, 0, none⟩), .pointer (some ⟨g + 1 + 1, 0, none⟩), .func (.func gf) #[] lb, .pointer (some ⟨wc.heap.size, 0, none⟩), .pointer (some ⟨W.heap.size, 0, none⟩), .pointer (some ⟨W.heap.size + 1, 0, none⟩), .pointer (some ⟨gt, 0, none⟩), .int .i64 (x.e : Nat), undef, .tuple #[.slice q n c, .int .i64 (pl : Nat), .int .i64 (er : Nat)], .string s, .tuple #[.slice q n c, .int .i64 (pl : Nat), .int .i64 (er : Nat)], .slice q n c, .int .i64 (pl : Nat), .int .i64 (er : Nat), .string s, .func (.func gf) #[] lb, .func (.func gf) #[] lb, .bool false, .int .i64 u, .bool (decide (u < 1)), .func (.func gf) #[] lb, undef, undef, undef, undef, undef, undef, undef, .func (.func gf) #[] lb, (tokV (x.k : Nat) x.t (x.v : Nat) (x.a : Nat)), .int .i64 (x.e : Nat), undef, undef, undef, undef, undef, undef, undef, undef, undef, undef, undef, undef, undef, undef, undef, undef, undef, undef, undef, undef, undef, undef, undef, undef, undef, undef, undef, undef, undef, undef, undef, undef, undef, undef, undef, undef, undef, undef, undef, undef, undef, undef, undef, undef, undef, undef, undef, undef, undef, undef, undef, undef, undef, undef, undef, undef, undef, undef, undef, undef], defers := [] })
        (fun x a' _ X Y row hs hg hr => by obtain ⟨gt, h2, h3⟩ := hs; exact ⟨gt, tokB_own gt _ _ _ _ () X Y row h2 hg (fun r e => (hr r e).2), h3⟩)
        ?assign2 ?body2 ?done2 ?stop2
      case assign2 =>
        rintro l pre x W' K hI hK
        obtain ⟨⟨⟨i1, i2⟩, i3⟩, i4⟩ := hI
        have hK2 := Lib.hid hK
        clear hK
        unfold It.enc
        gi_wp2
        have hs4 := i4.size
        exact hK2.out _ _ ((KeepsOthers.alloc _ _).from _) (keep_alloc (by have := HS5.out; omega) (by have := m1.lt; omega) _) ⟨⟨⟨i1.alloc _, i2.alloc _⟩, i3⟩, i4.alloc (by have := HS5.out; omega) _⟩ ⟨W'.heap.size, World.alloc_heap_new W' _, rfl⟩
      case body2 =>
        rintro l pre x a' W' _ _ hI ⟨gt, hTt, rfl⟩ hlen
        obtain ⟨⟨⟨i1, i2⟩, i3⟩, i4⟩ := hI
        have hs4 := i4.size
        have p2 := box_below m2 i4 (by have := k2.lt; omega)
        have p3 := box_below m3 i4 (by have := k3.lt; omega)
        have p4 := box_below m4 i4 (by have := k4.lt; omega)
        have p5 := box_below m5 i4 (by have := k5.lt; omega)
        have hTW := hTc.below (hBc5.trans (i4.mono (by omega))) (Nat.le_refl _)
        have cI1 := i1.cell
        have fI1 := i1.frozen
        have cI2 := i2.cell
        have fI2 := i2.frozen
        have cp2 := p2.cell
        have fp2 := p2.frozen
        have cp3 := p3.cell
        have cp4 := p4.cell
        have cp5 := p5.cell
        obtain ⟨t0, t1, t2, t3, _, _, _, _⟩ := hTt.at_
        have HPRE := Lib.hid i3
        have HP2 := Lib.hid p2
        have HTW := Lib.hid hTW
        have HI1 := Lib.hid i1
        have HI2 := Lib.hid i2
        have HI4 := Lib.hid i4
        have hkr : w.heap.size + 1 < W'.heap.size := p2.lt
        clear i1 i2 i3 i4 p2 p3 p4 p5 hTt hTW
        rcases Nat.lt_trichotomy pre.length n with hL | hL | hL
        · have hmin : min pre.length n = pre.length := by omega
          have hdec : decide (n < pre.length) = false := decide_eq_false (by omega)
          rw [hmin] at cI1
          rw [hdec] at cI2
          obtain ⟨gq, rfl, hgq, y0, y1, y2, y3⟩ := HTW.out pre.length (by rw [HA.out.len]; exact hL)
          have HNX := Lib.hid (next_word (x := x) HA.out HPRE.out (by rw [HA.out.len]; exact hL))
          generalize ys[pre.length]'(by rw [HA.out.len]; exact hL) = y at *
          have hki : ((pre.length : Nat) : Int) < (n : Int) := by omega
          obtain ⟨bad, hbad⟩ : ∃ bad : Bool, bad = (decide (x.e ≠ 0) || !sameB x y) := ⟨_, rfl⟩
          have HBAD := Lib.hid hbad
          clear hbad
          have hmo : Tryd.prog.follows .mixedOrders = true := by kernel_rfl
          gi_upto_region 19 with (fail)
          gi_cut [53] from 98 (fun r wx => r = .bool bad ∧ Below W'.heap.size W' wx)
          case first =>
            as_aux_lemma =>
              by_cases hx0 : x.e = 0
              · have hxb : (((x.e : Nat) : Int) != 0) = false := by rw [hx0]; rfl
                have hsm0 := fun W9 => same_any x y W9
                have HB2 : Hid (bad = !sameB x y) := Lib.hid (by rw [HBAD.out, decide_eq_false (fun h => h hx0)]; rfl)
                generalize sameB x y = sb at *
                have hsm := Lib.hid hsm0
                clear hx0 hsm0
                gi_region_with_o ((refine ⟨trivial, ?_⟩; gi_at_call 9; refine (CallsIn.inRound l (callsIn_wide.2 (hsm.out _))).mono ?_; rintro e w7 ⟨rfl, hb7⟩))
                all_goals (gi_wp2; gi_meet; exact ⟨by rw [HB2.out], below_of_drew hb7⟩)
              · have hxb : (((x.e : Nat) : Int) != 0) = true := by simp; omega
                have HB2 : Hid (bad = true) := Lib.hid (by rw [HBAD.out, decide_eq_true hx0]; rfl)
                clear hx0
                gi_region_with_o (first | refine ⟨trivial, ?_⟩ | refine ⟨fun _ h => (by cases h), ?_⟩)
                all_goals (gi_wp2; gi_meet; exact ⟨by rw [HB2.out], (Below.refl _ _).drew⟩)
          case rest =>
            rename_i wx
            obtain ⟨rfl, hb6⟩ := hcut
            have r2 := box_below HP2.out hb6 hkr
            have r1 := box_below HI1.out hb6 HI1.out.lt
            have r3 := box_below HI2.out hb6 HI2.out.lt
            have s2 := r2.cell
            have q2 := r2.frozen
            have s1 := r1.cell
            have q1 := r1.frozen
            rw [hmin] at s1
            have HB6 := Lib.hid hb6
            clear hb6 r2 cI1 fI1 cI2 fI2 cp2 fp2 cp3 cp4 cp5 t0 t1 t2 t3 y0 y1 y2 y3
            have R1 := Lib.hid r1
            have R3 := Lib.hid r3
            clear r1 r3
            cases bad
            · have hok : x.e = 0 ∧ sameB x y = true := by
                have := HBAD.out
                by_cases hx0 : x.e = 0
                · rw [decide_eq_false (fun h => h hx0), Bool.false_or] at this
                  exact ⟨hx0, by cases hh : sameB x y <;> simp [hh] at this ⊢⟩
                · rw [decide_eq_true hx0] at this
                  exact absurd this (by simp)
              have HPX := Lib.hid (HNX.out.2 hok)
              clear hok
              have hminS : min (pre ++ [x]).length n = pre.length + 1 := by rw [List.length_append, List.length_singleton]; omega
              have hdecS : decide (n < (pre ++ [x]).length) = false := decide_eq_false (by rw [List.length_append, List.length_singleton]; omega)
              have hsz6 := HB6.out.size
              gi_wp2
              have hR3' := R3.out
              rw [hdec] at hR3'
              have hI4' := (HI4.out.trans (HB6.out.mono (by have := HS5.out; omega))).setCell (p := ⟨W.heap.size, 0, none⟩) (Nat.le_refl _) (.int .i64 (((pre.length : Nat) : Int) + 1))
              refine ⟨((keeps_of_below HB6.out).trans (KeepsOthers.setCell _ _ _)).from _, (keep_grow (by have := HS5.out; omega) (by have := m1.lt; omega) HB6.out).trans (keep_set (Nat.le_refl _) (by have := HS5.out; omega) (by omega) _), ⟨⟨⟨?_, ?_⟩, HPX.out⟩, hI4'⟩⟩
              · rw [hminS]; exact R1.out.set _
              · rw [hdecS]; exact hR3'.other (by omega) _
            · have hno : ¬ (x.e = 0 ∧ sameB x y = true) := by
                rintro ⟨h1, h2⟩
                have := HBAD.out
                rw [decide_eq_false (fun h => h h1), h2] at this
                exact absurd this (by simp)
              have HPX := Lib.hid (fun h => hno (HNX.out.1 h))
              clear hno
              gi_wp2
              exact ⟨((keeps_of_below HB6.out).trans (KeepsOthers.setCell _ _ _)).from _, rfl, HPX.out⟩
        · have hmin : min pre.length n = n := by omega
          have hdec : decide (n < pre.length) = false := decide_eq_false (by omega)
          rw [hmin] at cI1
          rw [hdec] at cI2
          by_cases her : er = 0
          · subst her
            have HNX := Lib.hid (next_none (x := x) HA.out (show n + (if 0 = 0 then 0 else 1) ≤ pre.length by rw [if_pos rfl]; omega))
            gi_wp2
            exact ⟨(KeepsOthers.setCell _ _ _).from _, rfl, HNX.out⟩
          · have HNX := Lib.hid (next_err (x := x) HA.out HPRE.out hL her)
            have hmS : min (pre ++ [x]).length n = n := by rw [List.length_append, List.length_singleton]; omega
            have hdS : decide (n < (pre ++ [x]).length) = true := decide_eq_true (by rw [List.length_append, List.length_singleton]; omega)
            have HMS := Lib.hid hmS
            have HDS := Lib.hid hdS
            clear hmS hdS
            gi_wp2
            all_goals first
              | (refine ⟨(KeepsOthers.setCell _ _ _).from _, rfl, fun hh => ?_⟩
                 obtain ⟨z1, z2, z3, z4, z5⟩ := HNX.out.1 hh
                 first
                 | exact absurd (show ((x.e : Nat) : Int) = ((er : Nat) : Int) by rw [z1]) (by assumption)
                 | exact absurd z2 (by assumption)
                 | exact absurd (toList_nil z3) (by assumption)
                 | exact absurd z4 (by assumption)
                 | exact absurd (show ((x.a : Nat) : Int) = ((pl : Nat) : Int) by rw [z5]) (by assumption))
              | (rename_i q1 q2 q3 q4 q5 q6
                 refine ⟨(KeepsOthers.setCell _ _ _).from _, keep_set (by omega) (by have := HS5.out; omega) (by omega) _, ⟨⟨⟨?_, ?_⟩, HNX.out.2 ⟨Int.ofNat.inj q1, q2, nil_of_toList q3, q4, Int.ofNat.inj q5⟩⟩, HI4.out.setCell (p := ⟨W.heap.size + 1, 0, none⟩) (by simp) _⟩⟩
                 · rw [HMS.out]
                   have := HI1.out
                   rw [hmin] at this
                   exact this.other (by omega) _
                 · rw [HDS.out]
                   exact HI2.out.set _)
        · have hdec : decide (n < pre.length) = true := decide_eq_true hL
          rw [hdec] at cI2
          have hpl := pre_len HA.out HPRE.out
          have HNX := Lib.hid (next_none (x := x) HA.out (show n + (if er = 0 then 0 else 1) ≤ pre.length by split <;> omega))
          clear hpl
          gi_wp2
          exact ⟨(KeepsOthers.setCell _ _ _).from _, rfl, HNX.out⟩
      case done2 =>
        rintro D2 xs W' hD2 hS2 ⟨⟨⟨i1, i2⟩, i3⟩, i4⟩ hK2
        have hxl : xs.length = n + if er = 0 then 0 else 1 := by
          have := congrArg List.length hS2
          rwa [List.length_map, HA.out.count] at this
        have hmn : min xs.length n = n := by rw [hxl]; split <;> omega
        have hdn : decide (n < xs.length) = decide (er ≠ 0) := by rw [hxl]; by_cases h : er = 0 <;> simp [h]
        rw [hmn] at i1
        rw [hdn] at i2
        have hs4 := i4.size
        have hs5 := HS5.out
        have hwW : w.heap.size + 1 < wc.heap.size := k2.lt
        have hgW : g < wc.heap.size := k3.lt
        have hg2W : g + 1 + 1 < wc.heap.size := k5.lt
        have hl2 : D2 < W'.heap.size := heap_lt hK2
        have p1 := (box_below m1 i4 (by omega)).cell
        have p2 := (box_below m2 i4 (by omega)).cell
        have u2 := (box_below m2 i4 (by omega)).frozen
        have p3 := (box_below m3 i4 (by omega)).cell
        have p5 := (box_below m5 i4 (by omega)).cell
        have pn := (box_below mn i4 hWs).cell
        have pk := i1.cell
        have pe := i2.cell
        have hD1 : W'.heap[D]? = some (.deferred (some [])) := (i4.block D hDl).trans HD5.out
        have hBW' : Below w.heap.size w W' := HBw5.out.trans (i4.mono (by omega))
        have haw := Lib.hid (awake_any W' (hE.below hBW' hElt))
        have hmx := hM
        have hDD : D ≠ D2 := by omega
        have hDw : w.heap.size ≤ D := by have := HD.out; omega
        clear i1 i2 i3 i4 hS2 hxl hmn hdn m1 m2 m3 m4 m5 mn k1 k2 k3 k4 k5 hTc hBc c1
        have hcase : ∃ ez : Bool, ((((er : Nat) : Int) != 0) = ez ∧ decide (er ≠ 0) = ez) ∧ (nn = v ∨ nn = if ez then (n : Int) + 1 else (n : Int)) := by
          by_cases h : er = 0
          · subst h
            exact ⟨false, ⟨rfl, rfl⟩, by simpa using HNNV.out⟩
          · refine ⟨true, ⟨by simpa using h, by simpa using h⟩, ?_⟩
            have := HNNV.out
            rw [if_neg h] at this
            simpa using this
        obtain ⟨ez, ⟨e1, e2⟩, hnn⟩ := hcase
        rw [e2] at pe
        have hcs : ((nn == v) = true) ∨ ((nn == v) = false ∧ (nn == if ez then (n : Int) + 1 else (n : Int)) = true) := by
          by_cases h : nn = v
          · exact .inl (by simpa using h)
          · exact .inr ⟨by simpa using h, by simpa using hnn.resolve_left h⟩
        clear hnn e2
        cases ez
        all_goals
          rcases hcs with hq1 | ⟨hq1, hq2⟩
          all_goals
            try simp only [Bool.false_eq_true, ↓reduceIte] at hq2
            gi_wp2_with fail
            refine ⟨trivial, ?_⟩
            gi_at_call 10
            refine (callsIn_wide.2 haw.out).mono ?_
            rintro e w11 ⟨rfl, hb11⟩
            have o2 := (hb11.cell (p := ⟨w.heap.size + 1, 0, none⟩) (by show w.heap.size + 1 < _; omega)).trans p2
            have o3 := (hb11.frozen (p := ⟨w.heap.size + 1, 0, none⟩) (by show w.heap.size + 1 < _; omega)).trans u2
            have q3 := (hb11.block D (by omega)).trans hD1
            have q4 := (hb11.block D2 (by omega)).trans hK2
            have hs11 := hb11.size
            have hBW11 := hBW'.trans (hb11.mono (B' := w.heap.size) (by omega))
            clear p1 p2 u2 p3 p5 pn pk pe hD1 hK2 hb11 haw
            gi_wp2
            have q5 := (KeepsOthers.setCell w11 ⟨w.heap.size + 1, 0, none⟩ (.bool true)).same D _ q3 rfl
            have q6 := (KeepsOthers.setCell w11 ⟨w.heap.size + 1, 0, none⟩ (.bool true)).same D2 _ q4 rfl
            have q7 : ((w11.setCell ⟨w.heap.size + 1, 0, none⟩ (.bool true)).putObj D2 (.deferred none)).heap[D]? = some (.deferred (some [])) := (World.putObj_heap_other (by omega)).trans q5
            have r2 : (w11.setCell ⟨w.heap.size + 1, 0, none⟩ (.bool true)).cell? ⟨w.heap.size + 1, 0, none⟩ = some (.bool true) := World.cell?_setCell_same' _ _ _ (by rw [o2]; rfl)
            have r3 := cell_kept r2 (grownBy_putObj' _ D2 (.deferred none)) (fun r e => by cases e; exact ⟨_, q6, rfl⟩)
            have r4 := cell_kept r3 (grownBy_putObj' _ D (.deferred none)) (fun r e => by cases e; exact ⟨_, q7, rfl⟩)
            refine ⟨by simp, .inl ⟨_, _, rfl, run_takeDeferred q6, ⟨by simp, .inl ⟨_, _, rfl, run_takeDeferred q7, ?_⟩⟩⟩⟩
            exact ⟨_, results3 _ _ (w.heap.size + 1) true rfl r4, rfl, ((hBW11.setCell (p := ⟨w.heap.size + 1, 0, none⟩) (by simp) _).trans (belowK_b (w := w) (Nat.le_refl _) _ D2 _ _ (by omega) q6 rfl rfl)).trans (belowK_b (w := w) (Nat.le_refl _) _ D _ _ (by omega) q7 rfl rfl)⟩
      case stop2 =>
        rintro D2 cc pre W' _ hpre ⟨rfl, hno⟩ _
        exact absurd hpre hno
end Go.Proofs.YtghgaelbjcggcaaDoor
