/- The kit's kept rows: what was lent reads as it did, with its mark. -/
import Derived.Test.YtnmcjkabihihiaaIE
namespace Go.Proofs.Ytnmcjkabihihiaa
open Go Go.RowKit Go.Proofs.Mm

/-- The call says yes, and only draws. -/
def Yes (w : World) (e : Ending) (w' : World) : Prop := e = .returned (.bool true) ∧ ∃ k, w' = w.drewN k
theorem says_true {p : Prop} {w : World} {e : Ending} {w' : World} (hp : p) (h : Says p w e w') : Yes w e w' := by
  obtain ⟨b, rfl, hb, hk⟩ := h
  rw [hb.2 hp]
  exact ⟨rfl, hk⟩
theorem yes_2 {w : World} {a b : Nat} : Yes w (.returned (.bool true)) ((w.drewN a).drewN b) := ⟨rfl, _, World.drewN_drewN ..⟩
theorem yes_1 {w : World} {a : Nat} : Yes w (.returned (.bool true)) (w.drewN a) := ⟨rfl, _, rfl⟩
/-- The mark behind a row. -/
theorem SlX.mark {α : Type} {mk : List Value} {bs size : Nat} {C : Cl} {R : List Value → α → Prop} {v : Value} {l : List α} (h : SlX mk (bs + 1) C R v l) (hs : 0 < size) (hR : ∀ c x, R c x → c.length = size) (hm : mk ≠ []) :
    ∃ g o c, v = .slice (some ⟨g, o, none⟩) l.length c ∧ l.length + 1 ≤ c ∧ c ≤ maxLen ∧ ∀ r u, mk[r]? = some u → C ⟨g, o + (l.length * size + r), none⟩ = some u := by
  obtain ⟨q, c, h1, h2, _, h4, _, h6⟩ := h.at hs hR
  obtain ⟨g, o, hq, h7⟩ := h6.resolve_left hm
  subst hq
  exact ⟨g, o, c, h1, h2.resolve_left hm, h4, h7⟩
section
variable {w : World} {v v' : Value}
set_option maxRecDepth 100000 in
set_option maxHeartbeats 1000000 in
theorem keptStrings_true {l : List ByteArray} (ha : StrR true (wC w) v l) (hb : StrR false (wC w) v' l) : Calls Try.prog 14 #[v, v'] w (Yes w) := by
  have HD := Lib.hid ((strings_dec ha hb).mono (fun e w' h => says_true rfl h))
  obtain ⟨g, o, c, rfl, hc, hm, hmk⟩ := SlX.mark (size := 1) ha (by decide) str_len (by decide)
  obtain ⟨q', c', rfl⟩ := SlX.shape hb
  obtain ⟨n, hn⟩ : ∃ n, l.length = n := ⟨_, rfl⟩
  rw [hn] at hc hmk HD ⊢
  unfold maxLen at hm
  have hx : w.cell? ⟨g, o + n, none⟩ = some (.string ⟨#[109, 97, 114, 107]⟩) := by have := hmk 0 _ rfl; simpa [wC] using this
  have hi : (n : Int) < (n : Int) + 1 := by omega
  have hcc : (n : Int) + 1 ≤ (c : Int) := by omega
  clear ha hb hn hmk
  go_enter Try.func14, Try.ntmps14
  go_wp2_with (go_at_call 17; refine HD.out.mono ?_; rintro e w2 ⟨rfl, k, rfl⟩)
  go_ret
  exact yes_1
set_option maxRecDepth 100000 in
set_option maxHeartbeats 1000000 in
theorem keptTerms_true {l : List TmZ} (ha : TmsR true (wC w) v l) (hb : TmsR false (wC w) v' l) : Calls Try.prog 15 #[v, v'] w (Yes w) := by
  have HD := Lib.hid ((terms_dec ha hb).mono (fun e w' h => says_true rfl h))
  obtain ⟨g, o, c, rfl, hc, hm, hmk⟩ := SlX.mark (size := 3) ha (by decide) tm_len (by decide)
  obtain ⟨q', c', rfl⟩ := SlX.shape hb
  obtain ⟨n, hn⟩ : ∃ n, l.length = n := ⟨_, rfl⟩
  rw [hn] at hc hmk HD ⊢
  unfold maxLen at hm
  have hx : w.cell? ⟨g, o + n * 3, none⟩ = some (.int .i64 (-71)) := by have := hmk 0 _ rfl; simpa [wC] using this
  have hi : (n : Int) < (n : Int) + 1 := by omega
  have hcc : (n : Int) + 1 ≤ (c : Int) := by omega
  clear ha hb hn hmk
  go_enter Try.func15, Try.ntmps15
  go_wp2_with (go_at_call 19; refine HD.out.mono ?_; rintro e w2 ⟨rfl, k, rfl⟩)
  go_ret
  exact yes_1
end
end Go.Proofs.Ytnmcjkabihihiaa
