/- Plain: what stands behind a token makes no difference to a source's fault at it (P5.6). -/
import Derived.Test.YtnmcjkabihihiaaDoorSynL
namespace Go.Proofs.Syn
section
variable {T T' : Nat → Option K} {F m : Nat} (hT : ∀ i, i ≤ m → T' i = T i)
include hT
theorem listF_loc {e e' : Nat → R (List Tm)} (he : ∀ i, L m i (e i) (e' i)) (s : List Nat) : ∀ (f : Nat) (l : List (List Tm)) (i : Nat), L m i (listF T e s f l i) (listF T' e' s f l i)
  | 0, _, _ => L.err _ (Nat.le_refl _)
  | f + 1, l, i => by
    rw [listF, listF]
    exact (he i).on fun x j _ => L.sw (fun h => is_loc hT _ h) (L.ok _ (by omega)) (L.sw (fun h => is_loc hT _ h) ((listF_loc he s f _ (j + 1)).from (by omega)) (L.err _ (Nat.le_refl _)))
theorem list_loc (s : List Nat) (i : Nat) : L m i (list T F s i) (list T' F s i) := by
  unfold list
  exact L.sw (fun h => is_loc hT _ h) (L.ok _ (by omega)) (listF_loc hT (expr_loc hT 12) s _ _ _)
theorem targetsF_loc : ∀ (f : Nat) (l : List (List Nat)) (i : Nat), L m i (targetsF T f l i) (targetsF T' f l i)
  | 0, _, _ => L.err _ (Nat.le_refl _)
  | f + 1, l, i => by
    rw [targetsF, targetsF]
    exact L.sw (fun h => is_loc hT _ h) (((name_loc hT (i + 1)).from (by omega)).on fun s j _ => targetsF_loc f _ j) (L.ok _ (Nat.le_refl _))
theorem stmtsF_loc {s s' : Nat → R (List St)} (hs : ∀ i, L m i (s i) (s' i)) (e : List Nat) : ∀ (f : Nat) (l : List St) (i : Nat), L m i (stmtsF T s e f l i) (stmtsF T' s' e f l i)
  | 0, _, _ => L.err _ (Nat.le_refl _)
  | f + 1, l, i => by
    rw [stmtsF, stmtsF]
    exact L.sw (fun h => is_loc hT _ h) (L.ok _ (by omega)) ((hs i).on fun x j _ => stmtsF_loc hs e f _ j)
def BothS (m : Nat) : Option (Nat → R (List St)) → Option (Nat → R (List St)) → Prop
  | none, none => True
  | some p, some p' => ∀ i, L m i (p i) (p' i)
  | _, _ => False
theorem block_loc {s s' : Option (Nat → R (List St))} (hs : BothS m s s') (i : Nat) : L m i (block T F s i) (block T' F s' i) := by
  match s, s', hs with
  | none, none, _ => exact L.sw (fun h => is_loc hT _ h) (L.err _ (Nat.le_refl _)) (L.err _ (Nat.le_refl _))
  | some p, some p', hs => exact (want_loc hT i _).on fun _ j _ => stmtsF_loc hT hs _ _ _ _
theorem call_loc (ts : List (List Nat)) (s : List Nat) (i : Nat) : L m i (call T F ts s i) (call T' F ts s i) :=
  (want_loc hT i _).on fun _ j _ => (list_loc hT _ j).on fun _l j _ => (want_loc hT j _).on fun _ _ _ => L.ok _ (Nat.le_refl _)
theorem plain_loc (hF : F ≠ 0) (i : Nat) : L m i (plain T F i) (plain T' F i) := by
  refine (name_loc hT i).on fun s j _ => ?_
  refine L.sw (fun h => is_loc hT _ h) ?_ (L.sw (fun h => is_loc hT _ h) (call_loc hT _ _ j) ?_)
  · exact ((expr_loc hT 12 (j + 1)).from (by omega)).on fun a j _ => (want_loc hT j _).on fun _ j _ => (want_loc hT j _).on fun _ j _ => (expr_loc hT 12 j).on fun b j _ => (want_loc hT j _).on fun _ j _ => L.ok _ (Nat.le_refl _)
  · refine (targetsF_loc hT F [s] j).on fun ts j _ => (want_loc hT j _).on fun _ j _ => ?_
    have A : L m j ((expr T F j).on fun e i => (want T i [59]).on fun _ i => (.ok ([⟨1, [], ts, [e]⟩], i) : R (List St))) ((expr T' F j).on fun e i => (want T' i [59]).on fun _ i => (.ok ([⟨1, [], ts, [e]⟩], i) : R (List St))) :=
      (expr_loc hT 12 j).on fun e j _ => (want_loc hT j _).on fun _ j _ => L.ok _ (Nat.le_refl _)
    have B : L m j ((name T j).on fun s i => call T F ts s i) ((name T' j).on fun s i => call T' F ts s i) :=
      (name_loc hT j).on fun s j _ => call_loc hT ts s j
    by_cases hl : ts.length = 1
    · by_cases hn : named T j = true
      · -- a name: the token behind it decides, and either way goes on to it
        have hA : j + 1 ≤ fin ((expr T F j).on fun e i => (want T i [59]).on fun _ i => (.ok ([⟨1, [], ts, [e]⟩], i) : R (List St))) :=
          Nat.le_trans (expr_on hF hn) (on_fin fun e k _ => ((want_loc (T' := T) (m := 0) (fun _ _ => rfl) k _).on (f' := fun _ i => (.ok ([⟨1, [], ts, [e]⟩], i) : R (List St))) fun _ _ _ => L.ok _ (Nat.le_refl _)).1)
        have hB : j + 1 ≤ fin ((name T j).on fun s i => call T F ts s i) := by
          obtain ⟨k, _, _, h2⟩ := name_is hn
          rw [h2]
          exact (call_loc (T' := T) (m := 0) (fun _ _ => rfl) ts k.text (j + 1)).1
        refine ⟨?_, fun hm => ?_⟩
        · split
          · exact A.1
          · exact B.1
        · have hj : j + 1 ≤ m := by
            refine Nat.le_trans ?_ hm
            split
            · exact hA
            · exact hB
          have h1 := named_loc hT (i := j) (by omega)
          have h2 := is_loc hT [40] hj
          rw [h1, h2]
          split at hm
          · rename_i hc
            rw [if_pos hc, if_pos hc]
            exact A.2 hm
          · rename_i hc
            rw [if_neg hc, if_neg hc]
            exact B.2 hm
      · refine L.low ?_ fun hj => ?_
        · rw [if_pos ⟨hl, fun h => hn h.1⟩]; exact A.1
        · rw [if_pos ⟨hl, fun h => hn h.1⟩, if_pos ⟨hl, fun h => hn (by rw [← named_loc hT hj]; exact h.1)⟩]
          exact A
    · rw [if_neg (fun h => hl h.1), if_neg (fun h => hl h.1)]
      exact B
theorem stmtOf_loc (hF : F ≠ 0) {s s' : Option (Nat → R (List St))} (hs : BothS m s s') (i : Nat) : L m i (stmtOf T F s i) (stmtOf T' F s' i) := by
  unfold stmtOf
  refine L.sw (fun h => is_loc hT _ h) ?_ (L.sw (fun h => is_loc hT _ h) ?_ (L.sw (fun h => is_loc hT _ h) ?_ (plain_loc hT hF i)))
  · exact ((expr_loc hT 12 (i + 1)).from (by omega)).on fun e j _ => (block_loc hT hs j).on fun a j _ =>
      L.sw (fun h => is_loc hT _ h) (((block_loc hT hs (j + 1)).from (by omega)).on fun b j _ => L.ok _ (Nat.le_refl _)) (L.ok _ (Nat.le_refl _))
  · exact ((expr_loc hT 12 (i + 1)).from (by omega)).on fun e j _ => (block_loc hT hs j).on fun a j _ => L.ok _ (Nat.le_refl _)
  · exact ((name_loc hT (i + 1)).from (by omega)).on fun c j _ => (expr_loc hT 12 j).on fun e j _ => (want_loc hT j _).on fun _ j _ => L.ok _ (Nat.le_refl _)
theorem stmt_loc (hF : F ≠ 0) : ∀ d i, L m i (stmtD T F d i) (stmtD T' F d i)
  | 0, i => stmtOf_loc hT hF (s := none) (s' := none) trivial i
  | d + 1, i => stmtOf_loc hT hF (s := some _) (s' := some _) (stmt_loc hF d) i
theorem rowF_loc {α : Type} {p p' : Nat → R α} (hp : ∀ i, L m i (p i) (p' i)) : ∀ (f : Nat) (l : List α) (i : Nat), L m i (rowF T p f l i) (rowF T' p' f l i)
  | 0, _, _ => L.err _ (Nat.le_refl _)
  | f + 1, l, i => by
    rw [rowF, rowF]
    exact (hp i).on fun x j _ => L.sw (fun h => is_loc hT _ h) (L.ok _ (by omega)) (L.sw (fun h => is_loc hT _ h) ((rowF_loc hp f _ (j + 1)).from (by omega)) (L.err _ (Nat.le_refl _)))
theorem row_loc {α : Type} {p p' : Nat → R α} (hp : ∀ i, L m i (p i) (p' i)) (i : Nat) : L m i (row T F p i) (row T' F p' i) :=
  (want_loc hT i _).on fun _ j _ => L.sw (fun h => is_loc hT _ h) (L.ok _ (by omega)) (rowF_loc hT hp _ _ _)
theorem varsF_loc (ns : List (List Nat)) : ∀ (f : Nat) (l : List De) (i : Nat), L m i (varsF T F ns f l i) (varsF T' F ns f l i)
  | 0, _, _ => L.err _ (Nat.le_refl _)
  | f + 1, l, i => by
    rw [varsF, varsF]
    exact L.sw (fun h => is_loc hT _ h) (((decl_loc hT ns (i + 1)).from (by omega)).on fun d j _ => (want_loc hT j _).on fun _ j _ => varsF_loc ns f _ j) (L.ok _ (Nat.le_refl _))
theorem func_loc (hF : F ≠ 0) (ns : List (List Nat)) (i : Nat) : L m i (func T F ns i) (func T' F ns i) :=
  (name_loc hT i).on fun _s j _ => (label_loc hT ns j).on fun _l j _ => (row_loc hT (decl_loc hT ns) j).on fun _ps j _ => (row_loc hT (label_loc hT ns) j).on fun _rs j _ =>
    (want_loc hT j _).on fun _ j _ => (varsF_loc hT ns F [] j).on fun _vs j _ => (stmtsF_loc hT (stmt_loc hT hF 12) _ _ _ j).on fun _b j _ =>
      (list_loc hT _ j).on fun _es j _ => (want_loc hT j _).on fun _ _j _ => L.ok _ (Nat.le_refl _)
theorem namesF_loc : ∀ (f : Nat) (l : List (List Nat)) (i : Nat), L m i (namesF T f l i) (namesF T' f l i)
  | 0, _, _ => L.err _ (Nat.le_refl _)
  | f + 1, l, i => by
    rw [namesF, namesF]
    by_cases hn : named T i = true
    · obtain ⟨k, hk, h1, h2⟩ := name_is hn
      have g : L m i (if l.length = 64 then .error (74, i) else if named T (i + 1) then namesF T f (l ++ [k.text]) (i + 1) else .ok (l ++ [k.text], i + 1))
          (if l.length = 64 then .error (74, i) else if named T' (i + 1) then namesF T' f (l ++ [k.text]) (i + 1) else .ok (l ++ [k.text], i + 1)) := by
        by_cases hl : l.length = 64
        · rw [if_pos hl, if_pos hl]; exact L.err _ (Nat.le_refl _)
        · rw [if_neg hl, if_neg hl]
          exact (L.sw (fun h => named_loc hT h) (namesF_loc f _ (i + 1)) (L.ok _ (Nat.le_refl _))).from (by omega)
      refine L.low (by rw [h2]; exact g.1) fun hi => ?_
      have hn' : named T' i = true := by rw [named_loc hT hi]; exact hn
      obtain ⟨k', hk', _, h2'⟩ := name_is hn'
      rw [hT i hi, hk] at hk'
      obtain rfl := Option.some.inj hk'
      rw [h2, h2']
      exact g
    · have hE : ∀ T0 : Nat → Option K, ¬ named T0 i = true → name T0 i = .error (50, i) := by
        intro T0 h0
        unfold name; unfold named at h0
        split
        · rename_i k hk
          rw [hk] at h0
          rw [if_neg (by simpa using h0)]
        · rfl
      refine L.low ?_ fun hi => ?_
      · rw [hE T hn]; exact Nat.le_refl _
      · rw [hE T hn, hE T' (by rw [named_loc hT hi]; exact hn)]
        exact L.err _ (Nat.le_refl _)
theorem principalsF_loc : ∀ (f : Nat) (l : List (List Nat)) (i : Nat), L m i (principalsF T F f l i) (principalsF T' F f l i)
  | 0, _, _ => L.err _ (Nat.le_refl _)
  | f + 1, l, i => by
    rw [principalsF, principalsF]
    exact L.sw (fun h => is_loc hT _ h) (((namesF_loc hT F l (i + 1)).from (by omega)).on fun d j _ => (want_loc hT j _).on fun _ j _ => principalsF_loc f _ j) (L.ok _ (Nat.le_refl _))
theorem declsF_loc (hF : F ≠ 0) (ns : List (List Nat)) : ∀ (f : Nat) (s : So) (i : Nat), L m i (declsF T F ns f s i) (declsF T' F ns f s i)
  | 0, _, _ => L.err _ (Nat.le_refl _)
  | f + 1, s, i => by
    have key : L m i
      (if is T i (tx "global") then (decl T F ns (i + 1)).on fun d i => (want T i [59]).on fun _ i => declsF T F ns f { s with globals := s.globals ++ [d] } i
      else if is T i (tx "channel") then (decl T F ns (i + 1)).on fun d i => (want T i [59]).on fun _ i => declsF T F ns f { s with channels := s.channels ++ [d] } i
      else if is T i (tx "array") then
        (name T (i + 1)).on fun n i => (number T i).on fun v i => (label T F ns i).on fun l i => (want T i [59]).on fun _ i => declsF T F ns f { s with arrays := s.arrays ++ [⟨n, v, l⟩] } i
      else if is T i (tx "func") then (func T F ns (i + 1)).on fun g i => declsF T F ns f { s with funcs := s.funcs ++ [g] } i
      else .error (50, i))
      (if is T' i (tx "global") then (decl T' F ns (i + 1)).on fun d i => (want T' i [59]).on fun _ i => declsF T' F ns f { s with globals := s.globals ++ [d] } i
      else if is T' i (tx "channel") then (decl T' F ns (i + 1)).on fun d i => (want T' i [59]).on fun _ i => declsF T' F ns f { s with channels := s.channels ++ [d] } i
      else if is T' i (tx "array") then
        (name T' (i + 1)).on fun n i => (number T' i).on fun v i => (label T' F ns i).on fun l i => (want T' i [59]).on fun _ i => declsF T' F ns f { s with arrays := s.arrays ++ [⟨n, v, l⟩] } i
      else if is T' i (tx "func") then (func T' F ns (i + 1)).on fun g i => declsF T' F ns f { s with funcs := s.funcs ++ [g] } i
      else .error (50, i)) := by
      refine L.sw (fun h => is_loc hT _ h) ?_ (L.sw (fun h => is_loc hT _ h) ?_ (L.sw (fun h => is_loc hT _ h) ?_ (L.sw (fun h => is_loc hT _ h) ?_ (L.err _ (Nat.le_refl _)))))
      · exact ((decl_loc hT ns (i + 1)).from (by omega)).on fun d j _ => (want_loc hT j _).on fun _ j _ => declsF_loc hF ns f _ j
      · exact ((decl_loc hT ns (i + 1)).from (by omega)).on fun d j _ => (want_loc hT j _).on fun _ j _ => declsF_loc hF ns f _ j
      · exact ((name_loc hT (i + 1)).from (by omega)).on fun n j _ => (number_loc hT j).on fun v j _ => (label_loc hT ns j).on fun l j _ => (want_loc hT j _).on fun _ j _ => declsF_loc hF ns f _ j
      · exact ((func_loc hT hF ns (i + 1)).from (by omega)).on fun g j _ => declsF_loc hF ns f _ j
    refine L.low ?_ fun hi => ?_
    · rw [declsF]; split
      · exact Nat.le_refl _
      · exact key.1
    · rw [declsF, declsF, hT i hi]; split
      · exact L.ok _ (Nat.le_refl _)
      · exact key
/-- AHEAD: two rows of tokens that are the same up to one, at which or ahead of which the first has a fault: it is the second one's. -/
theorem source_loc (hF : F ≠ 0) : L m 0 (source T F) (source T' F) :=
  (principalsF_loc hT F [] 0).on fun ns j _ => declsF_loc hT hF ns F _ j
theorem source_ahead (hF : F ≠ 0) {e j : Nat} (h : source T F = .error (e, j)) (hj : j ≤ m) : source T' F = .error (e, j) := by
  have := (source_loc hT hF).2
  rw [h] at this
  exact this hj
end
end Go.Proofs.Syn
