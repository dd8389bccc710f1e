/- Package lex's walk tells a text's words one by one: for every text, every memory in which the library's error lies, and whatever a round does that keeps what the walk has laid. -/
import Derived.Test.YtghgaelbjcggcaaDoorH
namespace Go.Proofs.YtghgaelbjcggcaaDoor
open Go Go.RowKit

attribute [local go_sem] Oper.semAt_some

/-- The walk at its label: the place of the text, what has been told. -/
def WJ (S0 n₀ n₁ B5 : Nat) (s : ByteArray) (l : Nat) (J : List It → World → Prop) (a : Act) (w : World) : Prop :=
  ∃ (at_ : Nat) (pre : List It) (u5 u6 u7 u8 u9 u10 u11 u12 u13 u14 u15 u16 u17 u18 u19 u20 u21 u22 u23 u24 u25 u26 u27 u28 u29 u30 u31 u32 u33 u34 u35 u36 u37 u38 u39 u40 u41 u42 u43 : Value), a = { tmps := #[.string s, .func (.yield l) #[] #[], undef, undef, .int .i64 (at_ : Int), u5, u6, u7, u8, u9, u10, u11, u12, u13, u14, u15, u16, u17, u18, u19, u20, u21, u22, u23, u24, u25, u26, u27, u28, u29, u30, u31, u32, u33, u34, u35, u36, u37, u38, u39, u40, u41, u42, u43], defers := [] } ∧ WSt S0 n₀ n₁ B5 s J at_ pre w
theorem jump_ret {l : Nat} {J : Act → World → Prop} {Q : Exit → Act → World → Prop} {a : Act} {w : World} : Exit.jump l J Q .ret a w = Q .ret a w := rfl
theorem jump_normal {l : Nat} {J : Act → World → Prop} {Q : Exit → Act → World → Prop} {a : Act} {w : World} : Exit.jump l J Q .normal a w = Q .normal a w := rfl
def wMu (s : ByteArray) (a : Act) (_ : World) : Nat := s.size - (intOf (a.tmps.getD 4 undef)).toNat

set_option maxRecDepth 100000 in
set_option maxHeartbeats 2000000 in
theorem walk_iw (n m l n₀ n₁ B5 : Nat) (s : ByteArray) (hs : s.size ≤ 65536) (hn₀ : 1 < n₀) (J Jx : List It → World → Prop) (W : World) (hJ : AbidesFrom W.heap.size J)
    (hY : ∀ pre x W1, J pre W1 → pre.length < (itemsOf (scanL (bl s) 0)).length → YieldAt Fence.wide m Tryd.prog l x.enc W1 fun e W' =>
      (e = .returned (.bool true) ∧ J (pre ++ [x]) W' ∧ Keep n₀ n₁ B5 W1 W') ∨ (e = .returned (.bool false) ∧ Jx (pre ++ [x]) W'))
    (hE : Env W) (hpt : PtOk B5 W) (hB5 : B5 < W.heap.size) (hn0 : n₀ ≤ W.heap.size) (hn1 : n₁ ≤ W.heap.size) (h0 : J [] W) :
    CallsIn Fence.wide n Tryd.prog 25 #[.string s, .func (.yield l) #[] #[]] W fun e W' => (∃ v, e = .returned v) ∧
      ((∃ ys : List It, ys.map It.key = itemsOf (scanL (bl s) 0) ∧ J ys W') ∨ (∃ pre : List It, pre.map It.key <+: itemsOf (scanL (bl s) 0) ∧ Jx pre W')) := by
  have hst : WSt W.heap.size n₀ n₁ B5 s J 0 [] W := ⟨by rw [List.drop_zero]; rfl, Nat.zero_le _, h0, hE, hpt, hB5, hn0, hn1, Nat.le_refl _⟩
  clear hE hpt hB5 hn0 hn1 h0
  obtain ⟨S0, hS0⟩ : ∃ S0, W.heap.size = S0 := ⟨_, rfl⟩
  rw [hS0] at hst hJ
  clear hS0
  refine callsIn_of_wp Tryd.func25 rfl trivial ?_ rfl
  simp only [Tryd.ntmps25, List.size_toArray, List.length_cons, List.length_nil, Nat.reduceAdd, Nat.reduceSub, Array.replicate_succ, Array.replicate_zero, List.push_toArray, List.append_toArray, List.nil_append, List.cons_append]
  refine wpIn_wide.2 ?_
  refine wp_scope_jumps 0 (WJ S0 n₀ n₁ B5 s l J) (wMu s) rfl ?first ?pass
  case first =>
    go_wp2
    go_step3
    go_wp2
    refine (wpIn_wide (n := n)).1 ?_
    gi_loopw [4] (fun i wr => ∃ (k : Nat) (pr : List It), i = .int .i64 k ∧ WSt S0 n₀ n₁ B5 s J k pr wr ) (fun i _ => s.size - (intOf i).toNat)
    case atStart => exact ⟨0, [], rfl, hst⟩
    case round =>
      clear hst
      obtain ⟨k, pr, rfl, hst⟩ := hrel
      by_cases hlt : k < s.size
      · have ht0 : 0 < (s.extract k s.size).size := by simp; omega
        have hts : (s.extract k s.size).size ≤ 65536 := by simp; omega
        have hgc := gap_any (s.extract k s.size) ht0 (by omega) wr
        rw [bl_rest] at hgc
        by_cases hg : 0 < gapL ((bl s).drop k)
        · have HS := Lib.hid hst.gap
          have hk2 := hst.gap.at_
          have hc := Lib.hid hgc
          clear hst ht0 hts hgc
          generalize gapL ((bl s).drop k) = gp at *
          gi_wp2_with (refine ⟨trivial, (fun h => by cases h), ?_⟩; gi_at_call 35; refine (callsIn_wide.2 hc.out).mono ?_; rintro e w' ⟨rfl, rfl⟩)
          refine wpIn_wide.2 ?_
          go_step3
          exact ⟨rfl, k + gp, pr, _, _, _, _, _, _, _, _, _, _, _, _, _, _, _, _, _, _, _, _, _, _, _, _, _, _, _, _, _, _, _, _, _, _, _, _, _, _, _, by rw [Int.natCast_add], HS.out⟩
        · have hg0 : gapL ((bl s).drop k) = 0 := by omega
          rw [hg0] at hgc
          have hc := Lib.hid hgc
          clear hgc hg
          by_cases he : errL ((bl s).drop k) = 0
          · have hf := first_ok (s.extract k s.size) ht0 (by omega) (by rw [bl_rest]; exact he) wr hst.env
            rw [bl_rest] at hf
            obtain ⟨hit, hk2, hn0, hsz⟩ := at_word hlt hg0 he
            have HF := Lib.hid hf
            have HIT := Lib.hid hit
            have HSZ := Lib.hid hsz
            have HS := Lib.hid hst
            clear hf hit hsz hst ht0 hts hg0 he
            obtain ⟨x, hx⟩ : ∃ x, itAt s k = x := ⟨_, rfl⟩
            have HF2 : Hid (Calls Tryd.prog 26 #[.string (s.extract k s.size)] wr (TokRes wr (x.k : Nat) x.t (x.v : Nat) 0)) := by rw [← hx]; exact HF
            have hxa : x.a = k := by rw [← hx]; rfl
            have hxe : x.e = 0 := by rw [← hx]; rfl
            rw [hx] at HIT HSZ
            clear HF hx
            generalize (wordL ((bl s).drop k)).1 = nn at *
            gi_wp2_with (first | (refine ⟨trivial, (fun h => by cases h), ?_⟩; gi_at_call 35; refine (callsIn_wide.2 hc.out).mono ?_; rintro e w' ⟨rfl, rfl⟩) | (refine ⟨trivial, (fun h => by cases h), ?_⟩; gi_at_call 26; refine (callsIn_wide.2 HF2.out).mono ?_))
            rintro e w1 ⟨rfl, hb1⟩
            have hs1 := HS.out.grow hJ hb1
            have hs2 := hs1.grow hJ ((Below.refl _ w1).alloc (Nat.le_refl _) (.cells #[.int .i64 (x.k : Nat), .string x.t, .int .i64 (x.v : Nat), .int .i64 (k : Nat)] 29))
            obtain ⟨fn, tmps, assign, body, hy, hR⟩ := yield_any (n - 1) (hY pr x _ hs2.inv (len_lt hs2.items ⟨_, HIT.out⟩))
            have hy' : (Instr.yield l #[tokV (x.k : Nat) x.t (x.v : Nat) (k : Nat), .int .i64 0]).run Tryd.prog (w1.alloc (.cells #[.int .i64 (x.k : Nat), .string x.t, .int .i64 (x.v : Nat), .int .i64 (k : Nat)] 29)) = .ok (.round l fn tmps assign body) (w1.alloc (.cells #[.int .i64 (x.k : Nat), .string x.t, .int .i64 (x.v : Nat), .int .i64 (k : Nat)] 29)) := by
              unfold It.enc at hy
              rw [hxa, hxe] at hy
              exact hy
            clear hy
            have H1 := Lib.hid hs1
            have H2 := Lib.hid hs2
            have HXA := Lib.hid hxa
            have HXE := Lib.hid hxe
            clear hs1 hs2 hb1 hY hxa hxe
            gi_wp2
            refine ⟨(fun h => by cases h), hR.mono ?_⟩
            rintro e W3 (⟨rfl, hJ3, hk3⟩ | ⟨rfl, hJx3⟩)
            · obtain ⟨k0, k1, k2, k3, f0, f1, f2, f3⟩ := tok_kept H1.out.ptok H1.out.b5 H1.out.n1 hk3
              have HN := Lib.hid (H2.out.keep hn₀ hk3 hJ3 HIT.out hk2)
              obtain rfl := HSZ.out
              clear HS H1 H2 hk3 hJ3 hR hy'
              gi_wp2
              refine ⟨⟨k + x.t.size, pr ++ [x], by rw [Int.natCast_add], HN.out⟩, by simp [intOf]; omega⟩
            · have HP := Lib.hid (pre_of HS.out.items ⟨_, HIT.out⟩)
              clear HS H1 H2 hR hy'
              gi_wp2
              rw [jump_ret]
              refine bodyPost_ret (results_none rfl _ _ _) rfl ?_
              exact ⟨⟨_, rfl⟩, .inr ⟨pr ++ [x], HP.out, hJx3⟩⟩
          · have hf := first_bad (s.extract k s.size) ht0 (by omega) (by rw [bl_rest]; exact he) wr hst.env
            rw [bl_rest] at hf
            have hit := at_err hlt hg0 he
            have heb : ((errL ((bl s).drop k) : Nat) : Int) ≠ 0 := by omega
            generalize errL ((bl s).drop k) = er at *
            have heb1 : (((er : Nat) : Int) != 0) = true := by simpa using heb
            have heb2 : (((er : Nat) : Int) == 0) = false := by simpa using heb
            have HF2 := Lib.hid hf
            have HIT := Lib.hid hit
            have HS := Lib.hid hst
            clear hf hit hst ht0 hts hg0 he heb
            gi_wp2_with (first | (refine ⟨trivial, (fun h => by cases h), ?_⟩; gi_at_call 35; refine (callsIn_wide.2 hc.out).mono ?_; rintro e w' ⟨rfl, rfl⟩) | (refine ⟨trivial, (fun h => by cases h), ?_⟩; gi_at_call 26; refine (callsIn_wide.2 HF2.out).mono ?_))
            rintro e w1 ⟨rfl, hb1⟩
            have hs1 := HS.out.grow hJ hb1
            have hs2 := hs1.grow hJ ((Below.refl _ w1).alloc (Nat.le_refl _) (.cells #[.int .i64 0, .string ⟨#[]⟩, .int .i64 0, .int .i64 (k : Nat)] 29))
            obtain ⟨fn, tmps, assign, body, hy, hR⟩ := yield_any (n - 1) (hY pr ⟨0, ⟨#[]⟩, 0, k, er⟩ _ hs2.inv (len_lt hs2.items ⟨_, HIT.out⟩))
            have hy' : (Instr.yield l #[tokV 0 ⟨#[]⟩ 0 (k : Nat), .int .i64 (er : Nat)]).run Tryd.prog (w1.alloc (.cells #[.int .i64 0, .string ⟨#[]⟩, .int .i64 0, .int .i64 (k : Nat)] 29)) = .ok (.round l fn tmps assign body) (w1.alloc (.cells #[.int .i64 0, .string ⟨#[]⟩, .int .i64 0, .int .i64 (k : Nat)] 29)) := hy
            clear hy
            have HP := Lib.hid (pre_of HS.out.items ⟨_, HIT.out⟩)
            have HA := Lib.hid (show (pr ++ [(⟨0, ⟨#[]⟩, 0, k, er⟩ : It)]).map It.key = itemsOf (scanL (bl s) 0) by rw [← HS.out.items, HIT.out, List.map_append]; rfl)
            clear hs1 hs2 hb1 hY HS HIT
            gi_wp2
            refine ⟨(fun h => by cases h), hR.mono ?_⟩
            rintro e W3 (⟨rfl, hJ3, hk3⟩ | ⟨rfl, hJx3⟩)
            · clear hR hy' hk3
              gi_wp2
              rw [jump_ret]
              refine bodyPost_ret (results_none rfl _ _ _) rfl ?_
              exact ⟨⟨_, rfl⟩, .inl ⟨_, HA.out, hJ3⟩⟩
            · clear hR hy'
              gi_wp2
              rw [jump_ret]
              refine bodyPost_ret (results_none rfl _ _ _) rfl ?_
              exact ⟨⟨_, rfl⟩, .inr ⟨_, HP.out, hJx3⟩⟩
      · have HA := Lib.hid (show pr.map It.key = itemsOf (scanL (bl s) 0) by have := hst.items; rw [at_end (by omega), List.append_nil] at this; exact this)
        have HI := Lib.hid hst.inv
        clear hst
        gi_wp2
        rw [jump_normal]
        go_end0
        exact ⟨⟨_, rfl⟩, .inl ⟨pr, HA.out, HI.out⟩⟩
  case pass =>
    rintro a w ⟨at_, pre, u5, u6, u7, u8, u9, u10, u11, u12, u13, u14, u15, u16, u17, u18, u19, u20, u21, u22, u23, u24, u25, u26, u27, u28, u29, u30, u31, u32, u33, u34, u35, u36, u37, u38, u39, u40, u41, u42, u43, rfl, hst⟩
    go_wp2
    refine (wpIn_wide (n := n)).1 ?_
    gi_loopw [4] (fun i wr => ∃ (k : Nat) (pr : List It), i = .int .i64 k ∧ WSt S0 n₀ n₁ B5 s J k pr wr ∧ at_ ≤ k) (fun i _ => s.size - (intOf i).toNat)
    case atStart => exact ⟨at_, pre, rfl, hst, Nat.le_refl _⟩
    case round =>
      clear hst
      obtain ⟨k, pr, rfl, hst, hle⟩ := hrel
      by_cases hlt : k < s.size
      · have ht0 : 0 < (s.extract k s.size).size := by simp; omega
        have hts : (s.extract k s.size).size ≤ 65536 := by simp; omega
        have hgc := gap_any (s.extract k s.size) ht0 (by omega) wr
        rw [bl_rest] at hgc
        by_cases hg : 0 < gapL ((bl s).drop k)
        · have HS := Lib.hid hst.gap
          have hk2 := hst.gap.at_
          have hc := Lib.hid hgc
          clear hst ht0 hts hgc
          generalize gapL ((bl s).drop k) = gp at *
          gi_wp2_with (refine ⟨trivial, (fun h => by cases h), ?_⟩; gi_at_call 35; refine (callsIn_wide.2 hc.out).mono ?_; rintro e w' ⟨rfl, rfl⟩)
          refine wpIn_wide.2 ?_
          go_step3
          exact ⟨rfl, ⟨k + gp, pr, _, _, _, _, _, _, _, _, _, _, _, _, _, _, _, _, _, _, _, _, _, _, _, _, _, _, _, _, _, _, _, _, _, _, _, _, _, _, _, by rw [Int.natCast_add], HS.out⟩, by simp [wMu, intOf]; omega⟩
        · have hg0 : gapL ((bl s).drop k) = 0 := by omega
          rw [hg0] at hgc
          have hc := Lib.hid hgc
          clear hgc hg
          by_cases he : errL ((bl s).drop k) = 0
          · have hf := first_ok (s.extract k s.size) ht0 (by omega) (by rw [bl_rest]; exact he) wr hst.env
            rw [bl_rest] at hf
            obtain ⟨hit, hk2, hn0, hsz⟩ := at_word hlt hg0 he
            have HF := Lib.hid hf
            have HIT := Lib.hid hit
            have HSZ := Lib.hid hsz
            have HS := Lib.hid hst
            clear hf hit hsz hst ht0 hts hg0 he
            obtain ⟨x, hx⟩ : ∃ x, itAt s k = x := ⟨_, rfl⟩
            have HF2 : Hid (Calls Tryd.prog 26 #[.string (s.extract k s.size)] wr (TokRes wr (x.k : Nat) x.t (x.v : Nat) 0)) := by rw [← hx]; exact HF
            have hxa : x.a = k := by rw [← hx]; rfl
            have hxe : x.e = 0 := by rw [← hx]; rfl
            rw [hx] at HIT HSZ
            clear HF hx
            generalize (wordL ((bl s).drop k)).1 = nn at *
            gi_wp2_with (first | (refine ⟨trivial, (fun h => by cases h), ?_⟩; gi_at_call 35; refine (callsIn_wide.2 hc.out).mono ?_; rintro e w' ⟨rfl, rfl⟩) | (refine ⟨trivial, (fun h => by cases h), ?_⟩; gi_at_call 26; refine (callsIn_wide.2 HF2.out).mono ?_))
            rintro e w1 ⟨rfl, hb1⟩
            have hs1 := HS.out.grow hJ hb1
            have hs2 := hs1.grow hJ ((Below.refl _ w1).alloc (Nat.le_refl _) (.cells #[.int .i64 (x.k : Nat), .string x.t, .int .i64 (x.v : Nat), .int .i64 (k : Nat)] 29))
            obtain ⟨fn, tmps, assign, body, hy, hR⟩ := yield_any (n - 1) (hY pr x _ hs2.inv (len_lt hs2.items ⟨_, HIT.out⟩))
            have hy' : (Instr.yield l #[tokV (x.k : Nat) x.t (x.v : Nat) (k : Nat), .int .i64 0]).run Tryd.prog (w1.alloc (.cells #[.int .i64 (x.k : Nat), .string x.t, .int .i64 (x.v : Nat), .int .i64 (k : Nat)] 29)) = .ok (.round l fn tmps assign body) (w1.alloc (.cells #[.int .i64 (x.k : Nat), .string x.t, .int .i64 (x.v : Nat), .int .i64 (k : Nat)] 29)) := by
              unfold It.enc at hy
              rw [hxa, hxe] at hy
              exact hy
            clear hy
            have H1 := Lib.hid hs1
            have H2 := Lib.hid hs2
            have HXA := Lib.hid hxa
            have HXE := Lib.hid hxe
            clear hs1 hs2 hb1 hY hxa hxe
            gi_wp2
            refine ⟨(fun h => by cases h), hR.mono ?_⟩
            rintro e W3 (⟨rfl, hJ3, hk3⟩ | ⟨rfl, hJx3⟩)
            · obtain ⟨k0, k1, k2, k3, f0, f1, f2, f3⟩ := tok_kept H1.out.ptok H1.out.b5 H1.out.n1 hk3
              have HN := Lib.hid (H2.out.keep hn₀ hk3 hJ3 HIT.out hk2)
              obtain rfl := HSZ.out
              clear HS H1 H2 hk3 hJ3 hR hy'
              gi_wp2
              refine ⟨⟨k + x.t.size, pr ++ [x], by rw [Int.natCast_add], HN.out, by omega⟩, by simp [intOf]; omega⟩
            · have HP := Lib.hid (pre_of HS.out.items ⟨_, HIT.out⟩)
              clear HS H1 H2 hR hy'
              gi_wp2
              rw [jump_ret]
              refine bodyPost_ret (results_none rfl _ _ _) rfl ?_
              exact ⟨⟨_, rfl⟩, .inr ⟨pr ++ [x], HP.out, hJx3⟩⟩
          · have hf := first_bad (s.extract k s.size) ht0 (by omega) (by rw [bl_rest]; exact he) wr hst.env
            rw [bl_rest] at hf
            have hit := at_err hlt hg0 he
            have heb : ((errL ((bl s).drop k) : Nat) : Int) ≠ 0 := by omega
            generalize errL ((bl s).drop k) = er at *
            have heb1 : (((er : Nat) : Int) != 0) = true := by simpa using heb
            have heb2 : (((er : Nat) : Int) == 0) = false := by simpa using heb
            have HF2 := Lib.hid hf
            have HIT := Lib.hid hit
            have HS := Lib.hid hst
            clear hf hit hst ht0 hts hg0 he heb
            gi_wp2_with (first | (refine ⟨trivial, (fun h => by cases h), ?_⟩; gi_at_call 35; refine (callsIn_wide.2 hc.out).mono ?_; rintro e w' ⟨rfl, rfl⟩) | (refine ⟨trivial, (fun h => by cases h), ?_⟩; gi_at_call 26; refine (callsIn_wide.2 HF2.out).mono ?_))
            rintro e w1 ⟨rfl, hb1⟩
            have hs1 := HS.out.grow hJ hb1
            have hs2 := hs1.grow hJ ((Below.refl _ w1).alloc (Nat.le_refl _) (.cells #[.int .i64 0, .string ⟨#[]⟩, .int .i64 0, .int .i64 (k : Nat)] 29))
            obtain ⟨fn, tmps, assign, body, hy, hR⟩ := yield_any (n - 1) (hY pr ⟨0, ⟨#[]⟩, 0, k, er⟩ _ hs2.inv (len_lt hs2.items ⟨_, HIT.out⟩))
            have hy' : (Instr.yield l #[tokV 0 ⟨#[]⟩ 0 (k : Nat), .int .i64 (er : Nat)]).run Tryd.prog (w1.alloc (.cells #[.int .i64 0, .string ⟨#[]⟩, .int .i64 0, .int .i64 (k : Nat)] 29)) = .ok (.round l fn tmps assign body) (w1.alloc (.cells #[.int .i64 0, .string ⟨#[]⟩, .int .i64 0, .int .i64 (k : Nat)] 29)) := hy
            clear hy
            have HP := Lib.hid (pre_of HS.out.items ⟨_, HIT.out⟩)
            have HA := Lib.hid (show (pr ++ [(⟨0, ⟨#[]⟩, 0, k, er⟩ : It)]).map It.key = itemsOf (scanL (bl s) 0) by rw [← HS.out.items, HIT.out, List.map_append]; rfl)
            clear hs1 hs2 hb1 hY HS HIT
            gi_wp2
            refine ⟨(fun h => by cases h), hR.mono ?_⟩
            rintro e W3 (⟨rfl, hJ3, hk3⟩ | ⟨rfl, hJx3⟩)
            · clear hR hy' hk3
              gi_wp2
              rw [jump_ret]
              refine bodyPost_ret (results_none rfl _ _ _) rfl ?_
              exact ⟨⟨_, rfl⟩, .inl ⟨_, HA.out, hJ3⟩⟩
            · clear hR hy'
              gi_wp2
              rw [jump_ret]
              refine bodyPost_ret (results_none rfl _ _ _) rfl ?_
              exact ⟨⟨_, rfl⟩, .inr ⟨_, HP.out, hJx3⟩⟩
      · have HA := Lib.hid (show pr.map It.key = itemsOf (scanL (bl s) 0) by have := hst.items; rw [at_end (by omega), List.append_nil] at this; exact this)
        have HI := Lib.hid hst.inv
        clear hst
        gi_wp2
        rw [jump_normal]
        go_end0
        exact ⟨⟨_, rfl⟩, .inl ⟨pr, HA.out, HI.out⟩⟩
end Go.Proofs.YtghgaelbjcggcaaDoor
