/- CONF: EMPTY LINES AND REMARKS, as mathematics; sums of texts. -/
import Derived.Test.YtegobomfhdfodaaGreatDoorFd
namespace Go.Proofs.YtegobomfhdfodaaGreatDoor
open Go.RowKit
set_option maxRecDepth 100000
set_option linter.unusedVariables false
set_option linter.unusedSimpArgs false
namespace K
theorem pieces_lf : ∀ (a r : T), pieces (a ++ 10 :: r) = pieces a ++ pieces r
  | [], r => by show pieces (10 :: r) = [[]] ++ pieces r; simp [pieces]
  | b :: a, r => by
    have ih := pieces_lf a r
    show (if b = 10 then [] :: pieces (a ++ 10 :: r) else match pieces (a ++ 10 :: r) with | p :: ps => (b :: p) :: ps | [] => [[b]]) = (if b = 10 then [] :: pieces a else match pieces a with | p :: ps => (b :: p) :: ps | [] => [[b]]) ++ pieces r
    rw [ih]
    split
    · rfl
    · cases h : pieces a with
      | nil => exact absurd h (pieces_ne a)
      | cons p ps => rfl
theorem says_nil : says [] = false := by decide
theorem says_sp (j : Nat) : says (sp j) = false := by
  unfold says
  have := bare_sp j [] (fun b hb => by cases hb)
  rw [List.append_nil] at this
  rw [this]
theorem says_rem (j : Nat) (r : T) : says (sp j ++ 35 :: r) = false := by
  unfold says
  rw [bare_sp j _ (fun b hb => by simp only [List.head?_cons, Option.some.injEq] at hb; subst hb; decide)]
  rfl
theorem numbered_shift (d : Nat) : ∀ (n : Nat) (ps : List T), numbered (n + d) ps = (numbered n ps).map fun x => (x.1 + d, x.2)
  | n, [] => rfl
  | n, p :: ps => by
    simp only [numbered]
    have := numbered_shift d (n + 1) ps
    rw [show n + d + 1 = n + 1 + d from by omega, this]
    split <;> simp
theorem steps_shift (d : Nat) : ∀ (l : List (Nat × T)) (st : List L), steps st (l.map fun x => (x.1 + d, x.2)) = match steps st l with | .ok s => .ok s | .error e => .error (e.1, e.2 + d)
  | [], st => rfl
  | x :: l, st => by
    simp only [List.map_cons, steps]
    cases step st x.2 with
    | ok s1 => exact steps_shift d l s1
    | error c => rfl
/-- what the law puts ahead -/
def padded (j : Nat) (s : T) : T := (((sp j ++ [10, 35, 120, 58, 32, 121, 10]) ++ sp j) ++ [35, 32, 122, 10]) ++ s
theorem lines_padded (j : Nat) (s : T) : linesOf (padded j s) = (linesOf s).map fun x => (x.1 + 3, x.2) := by
  unfold linesOf padded
  have h : (((sp j ++ [10, 35, 120, 58, 32, 121, 10]) ++ sp j) ++ [35, 32, 122, 10]) ++ s = sp j ++ 10 :: ([35, 120, 58, 32, 121] ++ 10 :: ((sp j ++ [35, 32, 122]) ++ 10 :: s)) := by simp
  have hn : (10 : UInt8) ∉ sp j := fun h => by have := List.eq_of_mem_replicate h; cases this
  rw [h, pieces_cut _ _ hn, pieces_cut _ _ (by decide), pieces_cut _ _ (fun hm => by rcases List.mem_append.1 hm with hm | hm; exact hn hm; revert hm; decide)]
  rw [numbered, if_neg (by rw [says_sp]; decide), numbered, if_neg (by decide), numbered, if_neg (by rw [says_rem]; decide)]
  exact numbered_shift 3 0 (pieces s)
theorem parse_padded {j : Nat} {s : T} (hj : j ≤ 9) (hs : s.length ≤ 8000) : parse (padded j s) = match parse s with | .ok p => .ok p | .error e => .error (e.1, e.2 + 3) := by
  have hl : (padded j s).length ≤ 16384 := by unfold padded; simp only [List.length_append, List.length_replicate, List.length_cons, List.length_nil]; omega
  unfold parse
  rw [if_neg (by omega), if_neg (by omega), lines_padded, steps_shift]
  cases steps st0 (linesOf s) with
  | ok st => rfl
  | error e => rfl
/-- what the law puts behind -/
def behind (j : Nat) (s : T) : T := (s ++ sp j) ++ [10, 10, 35]
theorem lines_behind_nil (j : Nat) : linesOf (behind j []) = linesOf [] := by
  unfold linesOf behind
  have hn : (10 : UInt8) ∉ sp j := fun h => by have := List.eq_of_mem_replicate h; cases this
  rw [show ([] ++ sp j) ++ [10, 10, 35] = sp j ++ 10 :: ([] ++ 10 :: [35]) from by simp, pieces_cut _ _ hn, pieces_cut _ _ (by decide)]
  rw [numbered, if_neg (by rw [says_sp]; decide)]
  decide
theorem lines_behind (j : Nat) (s : T) : linesOf (behind j (s ++ [10])) = linesOf (s ++ [10]) := by
  unfold linesOf behind
  have hn : (10 : UInt8) ∉ sp j := fun h => by have := List.eq_of_mem_replicate h; cases this
  rw [show (s ++ [10] ++ sp j) ++ [10, 10, 35] = s ++ 10 :: (sp j ++ 10 :: ([] ++ 10 :: [35])) from by simp, pieces_lf s, pieces_cut (sp j) _ hn, pieces_cut [] _ (by decide), show s ++ [10] = s ++ 10 :: [] from rfl, pieces_lf s, numbered_app, numbered_app]
  congr 1
  rw [numbered, if_neg (by rw [says_sp]; decide), numbered, if_neg (by decide)]
  rw [show pieces [35] = [[35]] from by decide, show pieces ([] : T) = [[]] from rfl]
  rw [numbered, if_neg (by decide)]
  rfl
theorem parse_behind {j : Nat} {s : T} {p : List (T × Nd)} (hj : j ≤ 9) (hs : s.length ≤ 8000) (h : s = [] ∨ ∃ t, s = t ++ [10]) (hp : parse s = .ok p) : parse (behind j s) = .ok p := by
  have hl : (behind j s).length ≤ 16384 := by unfold behind; simp only [List.length_append, List.length_replicate, List.length_cons, List.length_nil]; omega
  unfold parse at hp ⊢
  rw [if_neg (by omega)] at hp ⊢
  rcases h with h | ⟨t, h⟩
  · rw [h] at hp ⊢; rw [lines_behind_nil]; exact hp
  · rw [h] at hp ⊢; rw [lines_behind]; exact hp
theorem numbered_max : ∀ (n : Nat) (ps : List T) (x : Nat), x ∈ (numbered n ps).map (·.1) → n < x ∧ x ≤ n + ps.length
  | n, [], x, h => by cases h
  | n, p :: ps, x, h => by
    simp only [numbered] at h
    have key : x ∈ (numbered (n + 1) ps).map (·.1) → n < x ∧ x ≤ n + (p :: ps).length := fun h => by
      have := numbered_max (n + 1) ps x h
      simp; omega
    split at h
    · simp only [List.map_cons, List.mem_cons] at h
      rcases h with h | h
      · simp; omega
      · exact key h
    · exact key h
theorem parse_line {s : T} {x : Int × Nat} (h : parse s = .error x) : x.2 ≤ s.length + 1 := by
  unfold parse at h
  split at h
  · injection h with h; subst h; simp
  · cases hs : steps st0 (linesOf s) with
    | ok st => rw [hs] at h; cases h
    | error y =>
      rw [hs] at h
      injection h with h
      subst h
      have h1 := numbered_max 0 (pieces s) y.2 (steps_err _ _ _ hs).2
      have h2 := pieces_len s
      omega
end K
theorem cat2 (a b : K.T) : Value.string ({ data := a.toArray } ++ { data := b.toArray }) = S (a ++ b) := by rw [ByteArray.mk_append_mk]
theorem cat3 (a b c : K.T) : Value.string (({ data := a.toArray } ++ { data := b.toArray }) ++ { data := c.toArray }) = S (a ++ b ++ c) := by
  rw [ByteArray.mk_append_mk, ByteArray.mk_append_mk]
theorem cat5 (a b c d e : K.T) : Value.string (((({ data := a.toArray } ++ { data := b.toArray }) ++ { data := c.toArray }) ++ { data := d.toArray }) ++ { data := e.toArray }) = S ((((a ++ b) ++ c) ++ d) ++ e) := by
  rw [ByteArray.mk_append_mk, ByteArray.mk_append_mk, ByteArray.mk_append_mk, ByteArray.mk_append_mk]
theorem sp_snoc (j : Nat) : K.sp j ++ [32] = K.sp (j + 1) := (List.replicate_succ' ..).symm
theorem sp_len (j : Nat) : (K.sp j).length = j := List.length_replicate
end Go.Proofs.YtegobomfhdfodaaGreatDoor

/- CONF: A LINE MORE BEHIND A PRINTED TEXT, as mathematics. -/
namespace Go.Proofs.YtegobomfhdfodaaGreatDoor
open Go.RowKit
set_option maxRecDepth 100000
set_option linter.unusedVariables false
set_option linter.unusedSimpArgs false
namespace K
abbrev zz : T := [122, 122]
abbrev lastT : T := [108, 97, 115, 116]
abbrev lit9 : T := [122, 122, 58, 32, 108, 97, 115, 116, 10]
def lastN : Nd := .mk 1 [108, 97, 115, 116] [] []
theorem pieces_lit : pieces lit9 = [[122, 122, 58, 32, 108, 97, 115, 116], []] := by decide
theorem says_lit : says [122, 122, 58, 32, 108, 97, 115, 116] = true := by decide
theorem read_lit : read [122, 122, 58, 32, 108, 97, 115, 116] = some ⟨0, [122, 122], ⟨1, [108, 97, 115, 116], []⟩⟩ := by kernel_rfl
theorem lines_more (n : Nat) : numbered n [[122, 122, 58, 32, 108, 97, 115, 116], []] = [(n + 1, [122, 122, 58, 32, 108, 97, 115, 116])] := by
  rw [numbered, if_pos says_lit, numbered, if_neg (by decide)]
  rfl
theorem parse_more {x : Nd} {t : T} (hp : print x = .ok t) (hl : ¬ 16384 < t.length + 9) : ∃ st n, Rdy 0 x.p [] st ∧ parse (t ++ lit9) = close (match step st [122, 122, 58, 32, 108, 97, 115, 116] with | .ok s => .ok s | .error c => .error (c, n + 1)) := by
  obtain ⟨hr, ht, htl, _, _⟩ := print_ok hp
  obtain ⟨st, hw, hrd, _⟩ := walk_print hr
  refine ⟨st, (linesK 10 [] x.p).length, hrd, ?_⟩
  unfold parse
  rw [if_neg (by simp only [List.length_append, List.length_cons, List.length_nil]; omega)]
  unfold linesOf
  rw [ht, pieces_print hr, pieces_lit, numbered_app, steps_app, steps_walk _ 0 _ _ hw, lines_more, Nat.zero_add]
  simp only [steps]
  cases step st [122, 122, 58, 32, 108, 97, 115, 116] <;> rfl
theorem step_more {x : Nd} {st : List L} (h : Rdy 0 x.p [] st) : step st [122, 122, 58, 32, 108, 97, 115, 116] = if (find x.p zz).isSome = true then .error 15 else if ¬ x.p.length < 256 then .error 3 else .ok [(0, x.p ++ [(zz, lastN)])] := by
  unfold step
  rw [read_lit]
  simp only
  unfold add
  have h : reach 0 st = some ((0, x.p) :: []) := h
  simp only [h]
  unfold addTo
  have c1 : ¬ ((1 : Nat) = 0 ∧ ¬ ([] : List L).length + 1 ≤ 8) := fun q => by cases q.1
  have c2 : ¬ (decide (4096 < ([108, 97, 115, 116] : T).length) || ([] : List T).any fun s => decide (4096 < s.length)) = true := by decide
  have c3 : ¬ ¬ ([] : List T).length ≤ 256 := by simp
  exact (if_neg c1).trans ((if_neg c2).trans (if_neg c3))
theorem more_long {t : T} (h : 16384 < t.length + 9) : parse (t ++ lit9) = .error (4, 0) := by
  unfold parse
  rw [if_pos (by simp only [List.length_append, List.length_cons, List.length_nil]; omega)]
theorem more_had {x : Nd} {t : T} (hp : print x = .ok t) (hl : ¬ 16384 < t.length + 9) (hf : (find x.p zz).isSome = true) : ∃ k, parse (t ++ lit9) = .error (15, k + 1) := by
  obtain ⟨st, n, hr, he⟩ := parse_more hp hl
  rw [step_more hr, if_pos hf] at he
  exact ⟨n, he⟩
theorem more_many {x : Nd} {t : T} (hp : print x = .ok t) (hl : ¬ 16384 < t.length + 9) (hf : ¬ x.p.length < 256) : ∃ o, parse (t ++ lit9) = .error o := by
  obtain ⟨st, n, hr, he⟩ := parse_more hp hl
  rw [step_more hr] at he
  by_cases h : (find x.p zz).isSome = true
  · rw [if_pos h] at he; exact ⟨_, he⟩
  · rw [if_neg h, if_pos hf] at he; exact ⟨_, he⟩
theorem more_ok {x : Nd} {t : T} (hp : print x = .ok t) (hl : ¬ 16384 < t.length + 9) (hf : ¬ (find x.p zz).isSome = true) (hn : x.p.length < 256) : parse (t ++ lit9) = .ok (x.p ++ [(zz, lastN)]) := by
  obtain ⟨st, n, hr, he⟩ := parse_more hp hl
  rw [step_more hr, if_neg hf, if_neg (by omega)] at he
  exact he
theorem get_is {x : Nd} (h : x.k = 0) (k : T) : is (get x [k]) = (find x.p k).isSome := by
  rw [get, if_pos h]
  cases hf : find x.p k with
  | none => rfl
  | some i =>
    obtain ⟨y, hy⟩ := find_at hf
    simp only [hy]
    rw [get_nil]
    rfl
theorem get_more {p : List (T × Nd)} (k : T) (y : Nd) (hf : ¬ (find p k).isSome = true) : get (.mk 0 [] [] (p ++ [(k, y)])) [k] = some y := by
  have hf : find p k = none := by cases h : find p k with
    | none => rfl
    | some i => rw [h] at hf; exact absurd rfl hf
  have : find (p ++ [(k, y)]) k = some p.length := by
    unfold find at hf ⊢
    rw [List.findIdx?_append, hf, List.findIdx?_cons]
    simp
  rw [get, if_pos (show (Nd.mk 0 [] [] (p ++ [(k, y)])).k = 0 from rfl)]
  show (match find (p ++ [(k, y)]) k with | some i => (match (p ++ [(k, y)])[i]? with | some y => get y.2 [] | none => none) | none => none) = some y
  rw [this]
  simp only [List.getElem?_append_right (Nat.le_refl _), Nat.sub_self, List.getElem?_cons_zero]
  exact get_nil _
/-- a node under a key -/
def under (k : T) (x : Nd) : Nd := .mk 0 [] [] [(k, x)]
theorem get_under (k : T) (x : Nd) : get (under k x) [k] = some x := get_more (p := []) k x (by simp [find])
end K
/-- a node under a key, in a block of its own -/
theorem rep_under {B : Nat → Prop} (w : World) (q1 q2 : Value) (x : Nd) (key : K.T) (hr : Rep B w q1 q2 x) (hk : key.length ≤ 140737488353000) :
    Rep Any (w.alloc (.cells (kv key x q1 q2) 44)) (.slice none 0 0) (.slice (some ⟨w.heap.size, 0, none⟩) 1 1) (K.under key x) := by
  have hB : Below w.heap.size w (w.alloc (.cells (kv key x q1 q2) 44)) := (Below.refl _ w).alloc (Nat.le_refl _) _
  have hbk := blk_new w (.cells (kv key x q1 q2) 44)
  refine Rep.of ⟨by show (0 : Nat) ≤ 255; decide, by show (0 : Nat) ≤ _; decide, by show (0 : Nat) * 16 ≤ _; decide, by show (1 : Nat) * 88 ≤ _; decide⟩ (RepT.nil _ _) ⟨w.heap.size, 0, fun _ => q1, fun _ => q2, ⟨_, 1, rfl, by show 1 ≤ 1 ∧ _; decide, fun _ => ⟨rfl, trivial, blk_lt hbk⟩⟩, fun i y hi => ?_⟩
  match i, hi with
  | 0, hi => cases hi; exact ⟨At5.box hbk, hk, (hr.under hB).mono fun _ _ _ => trivial⟩
end Go.Proofs.YtegobomfhdfodaaGreatDoor
