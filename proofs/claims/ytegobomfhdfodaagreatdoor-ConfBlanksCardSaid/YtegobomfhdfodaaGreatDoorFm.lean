/- CONF: WHAT IS PRINTED OF A KEY, READ AGAIN (mathematics). -/
import Derived.Test.YtegobomfhdfodaaGreatDoorDi
import Derived.Test.YtegobomfhdfodaaGreatDoorDb0
namespace Go.Proofs.YtegobomfhdfodaaGreatDoor
open Go.RowKit
set_option maxRecDepth 100000
set_option linter.unusedVariables false
set_option linter.unusedSimpArgs false
namespace K
theorem dropWhile_nil {α : Type} {p : α → Bool} : ∀ {l : List α}, l.dropWhile p = [] → ∀ b ∈ l, p b = true
  | [], _, b, hb => by cases hb
  | a :: r, h, b, hb => by
    rw [List.dropWhile_cons] at h
    split at h
    · rename_i ha
      rcases List.mem_cons.1 hb with e | hb
      · rw [e]; exact ha
      · exact dropWhile_nil h b hb
    · cases h
theorem key_mem {k : T} (h : isKey k = true) : k ≠ [] ∧ ∀ b ∈ k, b ∈ ofKeys := by
  unfold isKey at h
  simp only [Bool.and_eq_true, Bool.not_eq_true', List.isEmpty_eq_false_iff, List.isEmpty_iff] at h
  refine ⟨h.1.1, fun b hb => ?_⟩
  have h2 := dropWhile_nil (show (Lib.trimRightS k ofKeys).dropWhile (ofKeys.contains ·) = [] from h.2)
  have hr : b ∈ k.reverse := List.mem_reverse.2 hb
  rw [← List.takeWhile_append_dropWhile (p := (ofKeys.contains ·)) (l := k.reverse)] at hr
  have hc : ofKeys.contains b = true := by
    rcases List.mem_append.1 hr with hr | hr
    · have := List.all_eq_true.1 (List.all_takeWhile (p := (ofKeys.contains ·)) (l := k.reverse)) b hr
      exact this
    · exact h2 b (List.mem_reverse.2 hr)
  simpa using hc
theorem ofKeys_no : ∀ b ∈ ofKeys, b ≠ 32 ∧ b ≠ 58 ∧ b ≠ 35 ∧ b ≠ 10 := by decide
/-- spaces -/
abbrev sp (i : Nat) : T := List.replicate i 32
theorem bare_sp (i : Nat) (u : T) (h : ∀ b, u.head? = some b → b ≠ 32) : bare (sp i ++ u) = u := by
  unfold bare Lib.trimLeftB
  rw [List.dropWhile_append_of_pos (fun b hb => by rw [List.eq_of_mem_replicate hb]; rfl)]
  cases u with
  | nil => rfl
  | cons b r => rw [List.dropWhile_cons, if_neg (by have := h b rfl; simpa using this)]
theorem blanks_sp (i : Nat) (u : T) (h : ∀ b, u.head? = some b → b ≠ 32) : blanks (sp i ++ u) = i := by
  unfold blanks
  rw [bare_sp i u h, List.length_append, List.length_replicate]
  omega
theorem upto_at (k r ends : T) (b : UInt8) (h : ∀ c ∈ k, ends.contains c = false) (hb : ends.contains b = true) : upto (k ++ b :: r) ends = k.length := by
  unfold upto
  rw [List.takeWhile_append_of_pos (fun c hc => by simp only [h c hc]; rfl), List.takeWhile_cons, if_neg (by simp only [hb]; decide)]
  simp
theorem read_line (i : Nat) (k v : T) (h : isKey k = true) : read (sp i ++ (k ++ 58 :: v)) = readR i k v := by
  obtain ⟨hne, hm⟩ := key_mem h
  have hh : ∀ b, (k ++ 58 :: v).head? = some b → b ≠ 32 := fun b hb => by
    cases k with
    | nil => exact absurd rfl hne
    | cons c r =>
      simp only [List.cons_append, List.head?_cons, Option.some.injEq] at hb
      subst hb
      exact (ofKeys_no c (hm c (by simp))).1
  unfold read
  rw [bare_sp i _ hh, blanks_sp i _ hh, upto_at k v [58] 58 (fun c hc => by have := (ofKeys_no c (hm c hc)).2.1; simpa using this) (by decide)]
  unfold readK
  rw [List.take_left, List.drop_left, if_pos h]
  rfl
theorem indexAny_one {b : UInt8} {cs : T} (h : Lib.containsAny [b] cs = false) : cs.contains b = false := by
  unfold Lib.containsAny at h
  have h := of_decide_eq_false h
  rw [show Lib.indexAny [b] cs = if cs.contains b = true then 0 else -1 from by unfold Lib.indexAny; split <;> rfl] at h
  split at h
  · exact absurd (Int.le_refl 0) h
  · simpa using ‹¬ cs.contains b = true›
theorem plain_parts {s : T} (h : isPlain s = true) : (∃ b r, s = b :: r ∧ plainNo.contains b = false) ∧ hasCtl s = false ∧ Lib.trimRightB s 32 = s ∧ Lib.cut s [32, 35] = (s, [], false) := by
  unfold isPlain bareOk at h
  simp only [Bool.and_eq_true, Bool.not_eq_true', List.isEmpty_eq_false_iff] at h
  obtain ⟨⟨hne, hc⟩, ⟨h1, h2⟩, h3⟩ := h
  refine ⟨?_, hc, ?_, ?_⟩
  · cases s with
    | nil => exact absurd rfl hne
    | cons b r => exact ⟨b, r, rfl, indexAny_one h1⟩
  · unfold Lib.trimRightB
    have hx : ∀ b r, s.reverse = b :: r → b ≠ 32 := fun b r e hb => by
      have : s = r.reverse ++ [b] := by rw [← List.reverse_reverse s, e, List.reverse_cons]
      unfold Lib.hasSuffix at h2
      rw [this, hb] at h2
      have : [(32 : UInt8)].isSuffixOf (r.reverse ++ [32]) = true := by rw [List.isSuffixOf_iff_suffix]; exact ⟨r.reverse, rfl⟩
      rw [this] at h2
      cases h2
    cases e : s.reverse with
    | nil => rw [List.dropWhile_nil]; rw [← e, List.reverse_reverse]
    | cons b r =>
      rw [List.dropWhile_cons, if_neg (by have := hx b r e; simpa using this), ← e, List.reverse_reverse]
  · unfold Lib.contains at h3
    unfold Lib.cut
    rw [if_neg (of_decide_eq_false h3)]
theorem plain_value {s : T} (h : isPlain s = true) : value s = some (⟨1, s, []⟩, []) := by
  obtain ⟨⟨b, r, hs, hb⟩, _, ht, hc⟩ := plain_parts h
  have h34 : ¬ s.head? = some 34 := fun e => by rw [hs] at e; simp only [List.head?_cons, Option.some.injEq] at e; subst e; cases hb
  have h91 : ¬ s.head? = some 91 := fun e => by rw [hs] at e; simp only [List.head?_cons, Option.some.injEq] at e; subst e; cases hb
  unfold value
  rw [if_neg h34, if_neg h91]
  have hl : plainLen s = s.length := by unfold plainLen; rw [hc, ht]
  unfold plainOf
  rw [hl, List.take_length, List.drop_length, if_pos h]
  rfl
theorem plain_head {s : T} (h : isPlain s = true) : ∀ b, s.head? = some b → b ≠ 32 ∧ b ≠ 35 := fun b hb => by
  obtain ⟨⟨c, r, hs, hc⟩, _⟩ := plain_parts h
  rw [hs] at hb
  simp only [List.head?_cons, Option.some.injEq] at hb
  subst hb
  exact ⟨(fun e => by subst e; cases hc), (fun e => by subst e; cases hc)⟩
theorem idx4 (b : UInt8) : (0 ≤ Lib.indexByte [92, 34, 10, 9] b) ↔ (b = 92 ∨ b = 34 ∨ b = 10 ∨ b = 9) := by
  by_cases h1 : b = 92
  · subst h1; decide
  · by_cases h2 : b = 34
    · subst h2; decide
    · by_cases h3 : b = 10
      · subst h3; decide
      · by_cases h4 : b = 9
        · subst h4; decide
        · have e : ∀ c : UInt8, ¬ b = c → (c == b) = false := fun c h => beq_eq_false_iff_ne.2 fun e => h e.symm
          simp [Lib.indexByte, e _ h1, e _ h2, e _ h3, e _ h4, h1, h2, h3, h4]
theorem unq_ctl {b : UInt8} (h : unq b.toNat = false) (h1 : b ≠ 92) (h2 : b ≠ 34) (h3 : b ≠ 10) (h4 : b ≠ 9) : ctl b.toNat = false := by
  unfold unq at h
  have e : b.toNat.toUInt8 = b := by simp
  rw [e] at h
  have : ¬ 0 ≤ Lib.indexByte [92, 34, 10, 9] b := fun q => by rcases (idx4 b).1 q with q | q | q | q <;> contradiction
  rw [decide_eq_false this] at h
  simpa using h
/-- a quoted text is read as the text -/
theorem qt_quo : ∀ (s : T) (f : Nat) (acc r : T), (∀ b ∈ s, unq b.toNat = false) → s.length < f → qt f acc (s.flatMap esc1 ++ 34 :: r) = some (acc ++ s, r)
  | [], 0, _, _, _, hf => by simp at hf
  | [], f + 1, acc, r, _, _ => by
    show qt (f + 1) acc (34 :: r) = _
    rw [qt, if_pos rfl, List.append_nil]
  | b :: s, 0, _, _, _, hf => by simp at hf
  | b :: s, f + 1, acc, r, h, hf => by
    have ih := fun c => qt_quo s f (acc ++ [c]) r (fun b hb => h b (by simp [hb])) (by simp at hf; omega)
    have two : ∀ (e c : UInt8), unesc e = some c → qt (f + 1) acc (92 :: e :: (s.flatMap esc1 ++ 34 :: r)) = some (acc ++ c :: s, r) := fun e c he => by
      rw [qt, if_neg (by decide), show q1 92 (e :: (s.flatMap esc1 ++ 34 :: r)) = some (c, s.flatMap esc1 ++ 34 :: r) from by unfold q1; rw [if_neg (by decide), if_pos rfl]; show (unesc e).map _ = _; rw [he]; rfl]
      simp only
      rw [ih c, List.append_assoc]
      rfl
    rw [List.flatMap_cons]
    by_cases h1 : b = 92
    · subst h1; exact two 92 92 rfl
    · by_cases h2 : b = 34
      · subst h2; exact two 34 34 rfl
      · by_cases h3 : b = 10
        · subst h3; exact two 110 10 rfl
        · by_cases h4 : b = 9
          · subst h4; exact two 116 9 rfl
          · have he : esc1 b = [b] := by unfold esc1; rw [if_neg h1, if_neg h2, if_neg h3, if_neg h4]
            have hc := unq_ctl (h b (by simp)) h1 h2 h3 h4
            rw [he]
            show qt (f + 1) acc (b :: (s.flatMap esc1 ++ 34 :: r)) = _
            rw [qt, if_neg h2, show q1 b (s.flatMap esc1 ++ 34 :: r) = some (b, s.flatMap esc1 ++ 34 :: r) from by unfold q1; rw [if_neg (by rw [hc]; decide), if_neg h1]]
            simp only
            rw [ih b, List.append_assoc]
            rfl
theorem text_unq {s : T} (h : isText s = true) : ∀ b ∈ s, unq b.toNat = false := by
  unfold isText at h
  simp only [Bool.and_eq_true, Bool.not_eq_true', List.any_eq_false] at h
  exact fun b hb => by have := h.2 b hb; simpa using this
theorem fm_ge (s : T) : s.length ≤ (s.flatMap esc1).length := by
  induction s with
  | nil => simp
  | cons b s ih =>
    have : 1 ≤ (esc1 b).length := by unfold esc1; (repeat' split) <;> simp
    rw [List.flatMap_cons, List.length_append, List.length_cons]; omega
theorem quo_value {s : T} (h : isText s = true) : value (quo s) = some (⟨1, s, []⟩, []) := by
  unfold value quo
  have h1 := fm_ge s
  rw [if_pos (by rfl), List.tail_cons, qt_quo s _ [] [] (text_unq h) (by simp only [List.length_append, List.length_cons, List.length_nil]; omega)]
  rfl
theorem word_parts {s : T} (h : isWord s = true) : isPlain s = true ∧ ∀ c ∈ s, wordNo.contains c = false := by
  unfold isWord at h
  simp only [Bool.and_eq_true, Bool.not_eq_true'] at h
  refine ⟨h.1, fun c hc => ?_⟩
  have h2 := h.2
  unfold Lib.containsAny at h2
  have h2 := of_decide_eq_false h2
  rw [idx_upto] at h2
  by_cases hu : upto s wordNo < s.length
  · rw [if_pos hu] at h2; exact absurd (Int.natCast_nonneg _) h2
  · have := upto_no s wordNo c
    rw [List.take_of_length_le (by omega)] at this
    exact this hc
/-- an item as it is shown is read as it -/
theorem item_shown {s r : T} (h : isText s = true) (b : UInt8) (hb : b = 44 ∨ b = 93) : ∀ i, item (sp i ++ (shown isWord s ++ b :: r)) = some (s, b :: r) := fun i => by
  have hbr : bare (b :: r) = b :: r := by
    have := bare_sp 0 (b :: r) (fun c hc => by simp only [List.head?_cons, Option.some.injEq] at hc; subst hc; rcases hb with rfl | rfl <;> decide)
    simpa using this
  unfold item shown
  by_cases hw : isWord s = true
  · rw [if_pos hw]
    obtain ⟨hp, hn⟩ := word_parts hw
    obtain ⟨⟨c, t, hs, hc⟩, _⟩ := plain_parts hp
    rw [bare_sp i (s ++ b :: r) (fun d hd => by rw [hs] at hd; simp only [List.cons_append, List.head?_cons, Option.some.injEq] at hd; subst hd; exact (plain_head hp c (by rw [hs]; rfl)).1)]
    have h34 : c ≠ 34 := fun e => by have := hn c (by rw [hs]; simp); subst e; cases this
    have hq : qw (s ++ b :: r) = some (s, b :: r) := by
      rw [hs]
      show (match c :: (t ++ b :: r) with | 34 :: t => qt (t.length + 1) [] t | l => if isWord (l.take (upto l wordNo)) then some (l.take (upto l wordNo), l.drop (upto l wordNo)) else none) = _
      split
      · rename_i q; injection q with q _; exact absurd q h34
      · rename_i l q _
        have e : c :: (t ++ b :: r) = s ++ b :: r := by rw [hs]; rfl
        rw [e, upto_at s r wordNo b hn (by rcases hb with rfl | rfl <;> decide), List.take_left, List.drop_left, if_pos hw, hs]
    rw [hq]
    simp only [Option.map_some, hbr]
  · rw [if_neg hw]
    rw [show quo s ++ b :: r = 34 :: (s.flatMap esc1 ++ 34 :: b :: r) from by unfold quo; simp]
    rw [bare_sp i _ (fun d hd => by simp only [List.head?_cons, Option.some.injEq] at hd; subst hd; decide)]
    have h1 := fm_ge s
    show ((qt ((s.flatMap esc1 ++ 34 :: b :: r).length + 1) [] (s.flatMap esc1 ++ 34 :: b :: r)).map _) = _
    rw [qt_quo s _ [] _ (text_unq h) (by simp only [List.length_append, List.length_cons, List.length_nil]; omega)]
    simp only [Option.map_some, List.nil_append, hbr]
theorem itemsS_ge (i : Nat) (l : List T) : l.length < (itemsS i l).length := by
  induction l generalizing i with
  | nil => simp [itemsS]
  | cons s r ih =>
    have := ih (i + 1)
    rw [itemsS, List.length_append, List.length_append, List.length_cons]
    have h1 : 1 ≤ (shown isWord s).length := by
      unfold shown
      split
      · rename_i hw
        obtain ⟨⟨c, t, hs, _⟩, _⟩ := plain_parts (word_parts hw).1
        rw [hs]; simp
      · simp [quo]
    omega
theorem itemsS_head (i : Nat) (l : List T) : ∃ b r, (b = 44 ∨ b = 93) ∧ itemsS (i + 1) l = b :: r := by
  cases l with
  | nil => exact ⟨93, [], .inr rfl, rfl⟩
  | cons s r => exact ⟨44, 32 :: (shown isWord s ++ itemsS (i + 2) r), .inl rfl, rfl⟩
theorem items_back : ∀ (l : List T) (f i : Nat) (acc : List T), (∀ s ∈ l, isText s = true) → l.length < f → itemsF f acc (itemsS (i + 1) l) = some (acc ++ l, [])
  | [], 0, _, _, _, hf => by simp at hf
  | [], f + 1, i, acc, _, _ => by
    show itemsF (f + 1) acc [93] = _
    rw [itemsF, if_neg (by decide), if_pos (by rfl), List.append_nil]
    rfl
  | s :: l, 0, _, _, _, hf => by simp at hf
  | s :: l, f + 1, i, acc, h, hf => by
    obtain ⟨b, r, hb, e⟩ := itemsS_head (i + 1) l
    show itemsF (f + 1) acc (44 :: 32 :: (shown isWord s ++ itemsS (i + 1 + 1) l)) = _
    rw [itemsF, if_pos (by rfl), List.tail_cons, e]
    have hi := item_shown (r := r) (h s (by simp)) b hb 1
    rw [show sp 1 ++ (shown isWord s ++ b :: r) = 32 :: (shown isWord s ++ b :: r) from rfl] at hi
    rw [hi]
    simp only
    rw [← e, items_back l f (i + 1) (acc ++ [s]) (fun x hx => h x (by simp [hx])) (by simp at hf; omega), List.append_assoc]
    rfl
theorem list_back {l : List T} (h : ∀ s ∈ l, isText s = true) : list (itemsS 0 l) = some (l, []) := by
  cases l with
  | nil => rfl
  | cons s l =>
    obtain ⟨b, r, hb, e⟩ := itemsS_head 0 l
    have h0 : itemsS 0 (s :: l) = shown isWord s ++ b :: r := by rw [← e]; rfl
    have hhd : ∃ c t, shown isWord s = c :: t ∧ c ≠ 32 ∧ c ≠ 93 := by
      unfold shown
      split
      · rename_i hw
        obtain ⟨hp, hn⟩ := word_parts hw
        obtain ⟨⟨c, t, hs, hc⟩, _⟩ := plain_parts hp
        refine ⟨c, t, hs, (plain_head hp c (by rw [hs]; rfl)).1, fun q => ?_⟩
        have := hn c (by rw [hs]; simp)
        subst q; cases this
      · exact ⟨34, _, rfl, by decide, by decide⟩
    obtain ⟨c, t, hc, h32, h93⟩ := hhd
    have hba : bare (itemsS 0 (s :: l)) = itemsS 0 (s :: l) := by
      have := bare_sp 0 (itemsS 0 (s :: l)) (fun d hd => by rw [h0, hc] at hd; simp only [List.cons_append, List.head?_cons, Option.some.injEq] at hd; subst hd; exact h32)
      simpa using this
    unfold list
    rw [hba, if_neg (by rw [h0, hc]; simp only [List.cons_append, List.head?_cons, Option.some.injEq]; exact h93), h0]
    have hi := item_shown (r := r) (h s (by simp)) b hb 0
    rw [show sp 0 ++ (shown isWord s ++ b :: r) = shown isWord s ++ b :: r from rfl] at hi
    rw [hi]
    simp only
    rw [← e, items_back l _ 0 [s] (fun x hx => h x (by simp [hx])) (Nat.lt_succ_of_lt (itemsS_ge _ _))]
    rfl
/-- the leaf of a node -/
def leafOf (x : Nd) : Leaf := ⟨x.k, x.s, x.l⟩
theorem endOk_nil : endOk [] = true := by decide
theorem readR_val (i : Nat) (k u : T) (lf : Leaf) (hh : ∀ b, u.head? = some b → b ≠ 32 ∧ b ≠ 35) (hne : u ≠ []) (hv : value u = some (lf, [])) : readR i k (32 :: u) = some ⟨i, k, lf⟩ := by
  have h1 : bare (32 :: u) = u := bare_sp 1 u fun b hb => (hh b hb).1
  have h2 : blanks (32 :: u) = 1 := blanks_sp 1 u fun b hb => (hh b hb).1
  unfold readR
  rw [if_neg (by simp), h2, if_neg (by decide), h1, if_neg (by rintro (e | e); exact hne e; exact (hh 35 e).2 rfl)]
  unfold readV
  rw [hv]
  simp only [endOk_nil, if_true]
/-- what stands behind a key, read -/
theorem read_val (i : Nat) (k : T) {f a : Nat} {x : Nd} (h : nodeF (f + 1) a x = true) : readR i k (valS x) = some ⟨i, k, leafOf x⟩ := by
  rw [nodeF_eq] at h
  unfold valS
  by_cases h0 : x.k = 0
  · rw [if_pos h0] at h
    simp only [Bool.and_eq_true, List.isEmpty_iff] at h
    rw [if_neg (by omega), if_neg (by omega)]
    unfold readR leafOf noLeaf
    rw [if_pos rfl, h0, h.1.1, h.1.2]
  · rw [if_neg h0] at h
    by_cases h1 : x.k = 1
    · rw [if_pos h1] at h ⊢
      simp only [Bool.and_eq_true, decide_eq_true_eq] at h
      have hl : x.l = [] := List.eq_nil_of_length_eq_zero (by omega)
      have hlf : leafOf x = ⟨1, x.s, []⟩ := by unfold leafOf; rw [h1, hl]
      rw [hlf]
      show readR i k (32 :: shown isPlain x.s) = _
      unfold shown
      split
      · rename_i hp
        refine readR_val i k x.s _ (plain_head hp) ?_ (plain_value hp)
        obtain ⟨⟨c, t, hs, _⟩, _⟩ := plain_parts hp
        rw [hs]; simp
      · refine readR_val i k (quo x.s) _ (fun b hb => ?_) (by simp [quo]) (quo_value h.1)
        unfold quo at hb
        simp only [List.head?_cons, Option.some.injEq] at hb
        subst hb
        exact ⟨by decide, by decide⟩
    · rw [if_neg h1] at h ⊢
      by_cases h2 : x.k = 2
      · rw [if_pos h2] at h ⊢
        simp only [Bool.and_eq_true, List.isEmpty_iff] at h
        have ht := h.1.2
        unfold textsOk at ht
        simp only [Bool.and_eq_true, Bool.not_eq_true', List.any_eq_false] at ht
        have hlf : leafOf x = ⟨2, [], x.l⟩ := by unfold leafOf; rw [h2, h.1.1]
        rw [hlf]
        show readR i k (32 :: 91 :: itemsS 0 x.l) = _
        refine readR_val i k (91 :: itemsS 0 x.l) _ (fun b hb => ?_) (by simp) ?_
        · simp only [List.head?_cons, Option.some.injEq] at hb
          subst hb
          exact ⟨by decide, by decide⟩
        · unfold value
          rw [if_neg (by simp), if_pos (by rfl), List.tail_cons, list_back (fun s hs => by have := ht.2 s hs; simpa using this)]
          rfl
      · rw [if_neg h2] at h
        cases h
/-- no LF stands in what is printed of a key -/
theorem quo_lf (s : T) : (10 : UInt8) ∉ quo s := by
  unfold quo
  intro h
  rcases List.mem_cons.1 h with h | h
  · cases h
  · rcases List.mem_append.1 h with h | h
    · obtain ⟨b, _, hb⟩ := List.mem_flatMap.1 h
      unfold esc1 at hb
      split at hb
      · simp at hb
      · split at hb
        · simp at hb
        · split at hb
          · simp at hb
          · split at hb
            · simp at hb
            · simp only [List.mem_singleton] at hb
              rename_i h3 _
              exact h3 hb.symm
    · simp at h
theorem plain_lf {s : T} (h : isPlain s = true) : (10 : UInt8) ∉ s := fun hm => by
  have hc := (plain_parts h).2.1
  unfold hasCtl at hc
  rw [List.any_eq_false] at hc
  exact hc 10 hm (by decide)
theorem items_lf : ∀ (i : Nat) (l : List T), (10 : UInt8) ∉ itemsS i l
  | _, [] => by simp [itemsS]
  | i, s :: r => by
    rw [itemsS]
    intro h
    rcases List.mem_append.1 h with h | h
    · split at h <;> simp at h
    · rcases List.mem_append.1 h with h | h
      · unfold shown at h
        split at h
        · rename_i hw; exact plain_lf (word_parts hw).1 h
        · exact quo_lf s h
      · exact items_lf (i + 1) r h
theorem val_lf (x : Nd) : (10 : UInt8) ∉ valS x := by
  unfold valS
  split
  · intro h
    rcases List.mem_append.1 h with h | h
    · simp at h
    · unfold shown at h
      split at h
      · rename_i hp; exact plain_lf hp h
      · exact quo_lf _ h
  · split
    · unfold listS
      intro h
      rcases List.mem_append.1 h with h | h
      · simp at h
      · exact items_lf 0 _ h
    · simp
end K
end Go.Proofs.YtegobomfhdfodaaGreatDoor

/- CONF: WHAT IS PRINTED IS PARSED AS IT WAS (mathematics). -/
namespace Go.Proofs.YtegobomfhdfodaaGreatDoor
open Go.RowKit
set_option maxRecDepth 100000
set_option linter.unusedVariables false
set_option linter.unusedSimpArgs false
namespace K
/-- the lines of keys, one by one -/
def linesK : Nat → T → List (T × Nd) → List T
  | 0, _, _ => []
  | f + 1, ind, l => l.flatMap fun y => (ind ++ (y.1 ++ 58 :: valS y.2)) :: linesK f (ind ++ [32, 32]) y.2.p
theorem keysS_lines : ∀ (f : Nat) (ind : T) (l : List (T × Nd)), keysS f ind l = (linesK f ind l).flatMap (· ++ [10])
  | 0, _, _ => rfl
  | f + 1, ind, l => by
    rw [keysS, linesK, List.flatMap_assoc]
    congr 1
    funext y
    rw [List.flatMap_cons, keysS_lines f]
    simp
theorem sp_two (i : Nat) : sp i ++ [32, 32] = sp (i + 2) := by
  show List.replicate i 32 ++ List.replicate 2 32 = List.replicate (i + 2) 32
  rw [List.replicate_append_replicate]
theorem pieces_lines : ∀ (ls : List T) (r : T), (∀ l ∈ ls, (10 : UInt8) ∉ l) → pieces (ls.flatMap (· ++ [10]) ++ r) = ls ++ pieces r
  | [], r, _ => rfl
  | l :: ls, r, h => by
    rw [List.flatMap_cons, List.append_assoc, List.append_assoc]
    show pieces (l ++ 10 :: (ls.flatMap (· ++ [10]) ++ r)) = _
    rw [pieces_cut l _ (h l (by simp)), pieces_lines ls r fun x hx => h x (by simp [hx])]
    rfl
/-- lines that come to the maps, whatever their numbers are -/
def walk : List L → List T → Option (List L)
  | st, [] => some st
  | st, t :: r => if says t then (match step st t with | .ok st' => walk st' r | .error _ => none) else walk st r
theorem walk_app : ∀ (st : List L) (a b : List T), walk st (a ++ b) = match walk st a with | some st' => walk st' b | none => none
  | st, [], b => rfl
  | st, t :: a, b => by
    simp only [List.cons_append, walk]
    split
    · cases step st t with
      | ok st' => exact walk_app st' a b
      | error c => rfl
    · exact walk_app st a b
theorem steps_walk : ∀ (ps : List T) (n : Nat) (st st' : List L), walk st ps = some st' → steps st (numbered n ps) = .ok st'
  | [], n, st, st', h => by simp only [walk, Option.some.injEq] at h; rw [h]; rfl
  | t :: r, n, st, st', h => by
    simp only [walk] at h
    simp only [numbered]
    split at h
    · rename_i hs
      rw [if_pos hs]
      simp only [steps]
      cases hst : step st t with
      | ok s1 => rw [hst] at h; exact steps_walk r (n + 1) s1 st' h
      | error c => rw [hst] at h; cases h
    · rename_i hs
      rw [if_neg hs]
      exact steps_walk r (n + 1) st st' h
theorem downF_fuel : ∀ (f g ind : Nat) (st : List L), st.length ≤ f → st.length ≤ g → downF f ind st = downF g ind st
  | f, g, ind, [], _, _ => by cases f <;> cases g <;> rfl
  | f, g, ind, [a], _, _ => by cases f <;> cases g <;> rfl
  | 0, g, ind, a :: b :: r, h, _ => by simp at h
  | f + 1, 0, ind, a :: b :: r, _, h => by simp at h
  | f + 1, g + 1, ind, a :: b :: r, h1, h2 => by
    simp only [downF]
    split
    · exact downF_fuel f g ind _ (by simp at h1 ⊢; omega) (by simp at h2 ⊢; omega)
    · rfl
theorem downs_step (ind : Nat) (a b : L) (r : List L) : downs ind (a :: b :: r) = if ind < a.1 then downs ind (pop a b :: r) else a :: b :: r := by
  unfold downs
  show downF (r.length + 2) ind (a :: b :: r) = _
  simp only [downF]
  split
  · exact downF_fuel _ _ ind _ (by simp) (by simp)
  · rfl
theorem downs_stop (ind : Nat) (a : L) (r : List L) (h : ¬ ind < a.1) : downs ind (a :: r) = a :: r := downF_stop _ ind a r h
theorem downs_one (ind : Nat) (a : L) : downs ind [a] = [a] := rfl
theorem downs_downs (i j : Nat) (hji : j ≤ i) : ∀ (n : Nat) (st : List L), st.length ≤ n → downs j (downs i st) = downs j st
  | _, [], _ => rfl
  | _, [a], _ => rfl
  | 0, a :: b :: r, h => by simp at h
  | n + 1, a :: b :: r, h => by
    rw [downs_step i]
    split
    · rename_i hi
      rw [downs_step j, if_pos (by omega)]
      exact downs_downs i j hji n _ (by simp at h ⊢; omega)
    · rfl
/-- a line so indented comes to these keys -/
def Rdy (i : Nat) (ks : List (T × Nd)) (rest st : List L) : Prop := reach i st = some ((i, ks) :: rest)
/-- all maps that are further indented belong to the last of these keys -/
def Coll (i : Nat) (ks : List (T × Nd)) (rest st : List L) : Prop := (∃ a r, st = a :: r ∧ i ≤ a.1) ∧ downs i st = (i, ks) :: rest
theorem begins_no (i : Nat) (a : L) (r : List L) (h : i ≤ a.1) : begins i (a :: r) = a :: r := by
  show (if (waits a.2 && decide (a.1 < i)) = true then (i, []) :: a :: r else a :: r) = a :: r
  rw [decide_eq_false (by omega), Bool.and_false]
  rfl
theorem Coll.rdy {i : Nat} {ks : List (T × Nd)} {rest st : List L} (h : Coll i ks rest st) : Rdy i ks rest st := by
  obtain ⟨⟨a, r, rfl, hi⟩, hd⟩ := h
  unfold Rdy reach
  rw [begins_no i a r hi, hd]
  exact if_pos rfl
theorem Coll.top (i : Nat) (ks : List (T × Nd)) (rest : List L) : Coll i ks rest ((i, ks) :: rest) := ⟨⟨_, _, rfl, Nat.le_refl _⟩, downs_stop i _ _ (by simp)⟩
theorem says_line (i : Nat) (k v : T) (h : isKey k = true) : says (sp i ++ (k ++ 58 :: v)) = true := by
  obtain ⟨hne, hm⟩ := key_mem h
  cases k with
  | nil => exact absurd rfl hne
  | cons c r =>
    have hc := ofKeys_no c (hm c (by simp))
    unfold says
    rw [bare_sp i _ (fun b hb => by simp only [List.cons_append, List.head?_cons, Option.some.injEq] at hb; subst hb; exact hc.1)]
    show (!(c == 35)) = true
    have := hc.2.2.1
    simpa using this
/-- what a right node lets be -/
theorem node_fits {f a : Nat} {x : Nd} (h : nodeF (f + 1) a x = true) : (x.k = 0 → a ≤ 8) ∧ x.s.length ≤ 4096 ∧ (∀ s ∈ x.l, s.length ≤ 4096) ∧ x.l.length ≤ 256 ∧ (x.p ≠ [] → x.k = 0 ∧ x.p.length ≤ 256 ∧ keysF (fun y => nodeF f (a + 1) y) [] x.p = true) := by
  rw [nodeF_eq] at h
  by_cases h0 : x.k = 0
  · rw [if_pos h0] at h
    simp only [Bool.and_eq_true, List.isEmpty_iff, decide_eq_true_eq] at h
    obtain ⟨⟨hs, hl⟩, ⟨ha, hp⟩, hk⟩ := h
    exact ⟨fun _ => ha, (by rw [hs]; simp), (by rw [hl]; intro s hs; cases hs), (by rw [hl]; simp), fun _ => ⟨h0, hp, hk⟩⟩
  · rw [if_neg h0] at h
    by_cases h1 : x.k = 1
    · rw [if_pos h1] at h
      simp only [Bool.and_eq_true, decide_eq_true_eq] at h
      have hl : x.l = [] := List.eq_nil_of_length_eq_zero (by omega)
      have hp : x.p = [] := List.eq_nil_of_length_eq_zero (by omega)
      exact ⟨fun e => absurd e h0, text_len h.1, (by rw [hl]; intro s hs; cases hs), (by rw [hl]; simp), fun e => absurd hp e⟩
    · rw [if_neg h1] at h
      by_cases h2 : x.k = 2
      · rw [if_pos h2] at h
        simp only [Bool.and_eq_true, List.isEmpty_iff] at h
        obtain ⟨⟨hs, ht⟩, hp⟩ := h
        unfold textsOk at ht
        simp only [Bool.and_eq_true, Bool.not_eq_true', List.any_eq_false, decide_eq_true_eq] at ht
        exact ⟨fun e => absurd e h0, (by rw [hs]; simp), fun s hs => text_len (by have := ht.2 s hs; simpa using this), ht.1, fun e => absurd hp e⟩
      · rw [if_neg h2] at h
        cases h
theorem leaf_nd {x : Nd} (h : x.p = []) : (leafOf x).nd = x := by
  cases x with
  | mk k s l p => simp only [Nd.p] at h; subst h; rfl
/-- a line of a right key comes to the maps -/
theorem step_key {f i : Nat} {ks : List (T × Nd)} {rest st : List L} {y : T × Nd} (hr : Rdy i ks rest st) (hk : isKey y.1 = true) (hf : (find ks y.1).isNone = true) (hn : nodeF (f + 1) (rest.length + 1) y.2 = true) (hl : ks.length < 256) :
    step st (sp i ++ (y.1 ++ 58 :: valS y.2)) = .ok ((i, ks ++ [(y.1, (leafOf y.2).nd)]) :: rest) := by
  obtain ⟨h0, hs, hls, hll, _⟩ := node_fits hn
  unfold step
  rw [read_line i y.1 _ hk, read_val i y.1 hn]
  simp only
  unfold add
  have hr : reach i st = some ((i, ks) :: rest) := hr
  simp only [hr]
  unfold addTo
  simp only [leafOf]
  have c1 : ¬ (y.2.k = 0 ∧ ¬ rest.length + 1 ≤ 8) := fun h => h.2 (h0 h.1)
  have c2 : ¬ (decide (4096 < y.2.s.length) || y.2.l.any fun s => decide (4096 < s.length)) = true := by
    rw [decide_eq_false (by omega), Bool.false_or, Bool.not_eq_true, List.any_eq_false]
    intro s hs'
    have := hls s hs'
    simp; omega
  have c3 : ¬ ¬ y.2.l.length ≤ 256 := by omega
  have c4 : ¬ (find ks y.1).isSome = true := by
    rw [Option.isNone_iff_eq_none] at hf
    rw [hf]; decide
  have c5 : ¬ ¬ ks.length < 256 := by omega
  exact (if_neg c1).trans ((if_neg c2).trans ((if_neg c3).trans ((if_neg c4).trans (if_neg c5))))
theorem lines_ok : ∀ (f : Nat) (l : List (T × Nd)) (i : Nat) (ks : List (T × Nd)) (rest st : List L), Rdy i ks rest st → keysF (fun y => nodeF f (rest.length + 1) y) ks l = true → ks.length + l.length ≤ 256 →
    ∃ st', walk st (linesK (f + 1) (sp i) l) = some st' ∧ (l = [] → st' = st) ∧ (l ≠ [] → Coll i (ks ++ l) rest st') := by
  intro f
  induction f with
  | zero =>
    intro l i ks rest st hr hk hl
    cases l with
    | nil => exact ⟨st, rfl, fun _ => rfl, fun h => absurd rfl h⟩
    | cons y r =>
      rw [keysF] at hk
      simp only [Bool.and_eq_true] at hk
      exact absurd hk.1.2 (by simp [nodeF])
  | succ f ihf =>
    intro l
    induction l with
    | nil => intro i ks rest st hr hk hl; exact ⟨st, rfl, fun _ => rfl, fun h => absurd rfl h⟩
    | cons y r ihl =>
      intro i ks rest st hr hk hl
      rw [keysF] at hk
      simp only [Bool.and_eq_true] at hk
      obtain ⟨⟨⟨hkey, hfind⟩, hnode⟩, hrest⟩ := hk
      simp only [List.length_cons] at hl
      have hst := step_key hr hkey hfind hnode (by omega)
      obtain ⟨st1, hst1⟩ : ∃ st1, st1 = (i, ks ++ [(y.1, (leafOf y.2).nd)]) :: rest := ⟨_, rfl⟩
      rw [← hst1] at hst
      -- the lines below the key
      have hsub : ∃ st2, walk st1 (linesK (f + 1) (sp (i + 2)) y.2.p) = some st2 ∧ Coll i (ks ++ [y]) rest st2 := by
        by_cases hp : y.2.p = []
        · refine ⟨st1, by rw [hp]; rfl, ?_⟩
          rw [hst1, leaf_nd hp]
          exact Coll.top i _ rest
        · obtain ⟨h0, hpl, hpk⟩ := (node_fits hnode).2.2.2.2 hp
          have hrd : Rdy (i + 2) [] st1 st1 := by
            unfold Rdy reach
            have hb : begins (i + 2) st1 = (i + 2, []) :: st1 := by
              rw [hst1]
              show (if (waits (ks ++ [(y.1, (leafOf y.2).nd)]) && decide (i < i + 2)) = true then _ else _) = _
              have hw : waits (ks ++ [(y.1, (leafOf y.2).nd)]) = true := by
                unfold waits
                simp [leafOf, Leaf.nd, Nd.k]
                exact h0
              rw [hw, decide_eq_true (by omega)]
              rfl
            rw [hb, downs_stop (i + 2) _ _ (by simp)]
            exact if_pos rfl
          have hlen : st1.length + 1 = rest.length + 1 + 1 := by rw [hst1]; rfl
          obtain ⟨st2, hw2, _, hc2⟩ := ihf y.2.p (i + 2) [] st1 st1 hrd (by rw [hlen]; exact hpk) (by simpa using hpl)
          refine ⟨st2, hw2, ?_⟩
          obtain ⟨⟨a, r', e, hi⟩, hd⟩ := hc2 hp
          refine ⟨⟨a, r', e, by omega⟩, ?_⟩
          rw [← downs_downs (i + 2) i (by omega) st2.length st2 (Nat.le_refl _), hd, hst1, List.nil_append, downs_step, if_pos (by show i < i + 2; omega)]
          unfold pop
          simp only
          rw [setLast_snoc, downs_stop i _ _ (by simp)]
          congr 3
          rw [show (y.1, Nd.mk (leafOf y.2).nd.k (leafOf y.2).nd.s (leafOf y.2).nd.l y.2.p) = (y.1, y.2) from by rw [Nd.eta y.2]; rfl]
      obtain ⟨st2, hw2, hc2⟩ := hsub
      obtain ⟨st', hw, hnil, hne⟩ := ihl i (ks ++ [y]) rest st2 hc2.rdy hrest (by simp; omega)
      refine ⟨st', ?_, (fun h => by cases h), fun _ => ?_⟩
      · show walk st (((sp i ++ (y.1 ++ 58 :: valS y.2)) :: linesK (f + 1) (sp i ++ [32, 32]) y.2.p) ++ linesK (f + 1 + 1) (sp i) r) = some st'
        rw [sp_two, List.cons_append, walk, if_pos (says_line i y.1 _ hkey), hst]
        simp only
        rw [walk_app, hw2]
        exact hw
      · by_cases hr0 : r = []
        · rw [hnil hr0, hr0]; exact hc2
        · have := hne hr0
          rw [List.append_assoc] at this
          exact this
/-- no line holds an LF -/
theorem lines_nolf : ∀ (f a : Nat) (i : Nat) (l : List (T × Nd)), (∀ y ∈ l, isKey y.1 = true ∧ nodeF f a y.2 = true) → ∀ t ∈ linesK (f + 1) (sp i) l, (10 : UInt8) ∉ t := by
  intro f
  induction f with
  | zero =>
    intro a i l h t ht
    cases l with
    | nil => cases ht
    | cons y r => exact absurd (h y (by simp)).2 (by simp [nodeF])
  | succ f ih =>
    intro a i l h t ht
    have ht : t ∈ l.flatMap fun y => (sp i ++ (y.1 ++ 58 :: valS y.2)) :: linesK (f + 1) (sp i ++ [32, 32]) y.2.p := ht
    obtain ⟨y, hy, ht⟩ := List.mem_flatMap.1 ht
    obtain ⟨hk, hn⟩ := h y hy
    rcases List.mem_cons.1 ht with e | ht
    · rw [e]
      intro hm
      rcases List.mem_append.1 hm with hm | hm
      · have := List.eq_of_mem_replicate hm; cases this
      · rcases List.mem_append.1 hm with hm | hm
        · exact (ofKeys_no 10 ((key_mem hk).2 10 hm)).2.2.2 rfl
        · rcases List.mem_cons.1 hm with hm | hm
          · cases hm
          · exact val_lf _ hm
    · rw [sp_two] at ht
      refine ih (a + 1) (i + 2) y.2.p (fun z hz => ?_) t ht
      obtain ⟨_, _, hpk⟩ := (node_fits hn).2.2.2.2 (fun e => by rw [e] at hz; cases hz)
      exact keysF_all _ _ _ hpk z hz
theorem allF_one : ∀ (f g ind : Nat) (st : List L) (a : L), st.length ≤ f → st.length ≤ g → downF f ind st = [a] → allF g st = a.2
  | f, g, ind, [], a, _, _, h => by cases f <;> cases h
  | f, g, ind, [b], a, _, _, h => by
    have : [b] = [a] := by cases f <;> exact h
    injection this with this
    subst this
    cases g <;> rfl
  | 0, g, ind, b :: c :: r, a, h1, _, _ => by simp at h1
  | f + 1, 0, ind, b :: c :: r, a, _, h2, _ => by simp at h2
  | f + 1, g + 1, ind, b :: c :: r, a, h1, h2, h => by
    simp only [downF] at h
    split at h
    · show allF g (pop b c :: r) = a.2
      exact allF_one f g ind _ a (by simp at h1 ⊢; omega) (by simp at h2 ⊢; omega) h
    · cases h
theorem all_coll {p : List (T × Nd)} {st : List L} (h : Coll 0 p [] st) : all st = p := allF_one _ _ 0 st (0, p) (Nat.le_refl _) (Nat.le_refl _) h.2
theorem right_parts {x : Nd} (h : right x = true) : x = .mk 0 [] [] x.p ∧ x.p.length ≤ 256 ∧ keysF (fun y => nodeF 9 1 y) [] x.p = true := by
  unfold right at h
  simp only [Bool.and_eq_true, decide_eq_true_eq] at h
  have hn := h.2
  rw [nodeF_eq, if_pos h.1] at hn
  simp only [Bool.and_eq_true, decide_eq_true_eq, List.isEmpty_iff] at hn
  refine ⟨?_, hn.2.1.2, hn.2.2⟩
  have := Nd.eta x
  rw [h.1, hn.1.1, hn.1.2] at this
  exact this
/-- where the lines of a right config lead to -/
theorem walk_print {x : Nd} (h : right x = true) : ∃ st, walk st0 (linesK 10 [] x.p) = some st ∧ Rdy 0 x.p [] st ∧ all st = x.p := by
  obtain ⟨_, hl, hk⟩ := right_parts h
  obtain ⟨st, hw, h1, h2⟩ := lines_ok 9 x.p 0 [] [] st0 rfl hk (by simpa using hl)
  refine ⟨st, hw, ?_⟩
  by_cases hp : x.p = []
  · rw [h1 hp, hp]; exact ⟨rfl, rfl⟩
  · exact ⟨(h2 hp).rdy, all_coll (h2 hp)⟩
theorem pieces_print {x : Nd} (h : right x = true) (r : T) : pieces (keysS 10 [] x.p ++ r) = linesK 10 [] x.p ++ pieces r := by
  obtain ⟨_, hl, hk⟩ := right_parts h
  rw [keysS_lines]
  exact pieces_lines _ r (lines_nolf 9 1 0 x.p fun y hy => keysF_all _ _ _ hk y hy)
/-- what is printed is read as what it was -/
theorem parse_print {x : Nd} (h : right x = true) (hs : (keysS 10 [] x.p).length ≤ 16384) : parse (keysS 10 [] x.p) = .ok x.p := by
  obtain ⟨st, hw, _, ha⟩ := walk_print h
  have hp := pieces_print h []
  rw [List.append_nil] at hp
  unfold parse
  rw [if_neg (by omega)]
  unfold linesOf
  have hwk : walk st0 (pieces (keysS 10 [] x.p)) = some st := by
    rw [hp, walk_app, hw]
    rfl
  rw [steps_walk _ 0 _ _ hwk]
  show Except.ok (all st) = _
  rw [ha]
end K
end Go.Proofs.YtegobomfhdfodaaGreatDoor

/- CONF: WHAT IS PARSED IS RIGHT (mathematics). -/
namespace Go.Proofs.YtegobomfhdfodaaGreatDoor
open Go.RowKit
set_option maxRecDepth 100000
set_option linter.unusedVariables false
set_option linter.unusedSimpArgs false
namespace K
/-- bytes that may be quoted, all of them -/
abbrev NoUnq (s : T) : Prop := ∀ b ∈ s, unq b.toNat = false
/-- what a line's node may be -/
def LeafOk (x : Leaf) : Prop := (x.kind = 0 ∧ x.text = [] ∧ x.list = []) ∨ (x.kind = 1 ∧ NoUnq x.text ∧ x.list = []) ∨ (x.kind = 2 ∧ x.text = [] ∧ ∀ s ∈ x.list, NoUnq s)
theorem unesc_unq {e c : UInt8} (h : unesc e = some c) : unq c.toNat = false := by
  unfold unesc at h
  split at h
  · injection h with h; subst h; decide
  · split at h
    · injection h with h; subst h; decide
    · split at h
      · injection h with h; subst h; decide
      · split at h
        · injection h with h; subst h; decide
        · cases h
theorem ctl_unq {b : UInt8} (h : ctl b.toNat = false) : unq b.toNat = false := by unfold unq; rw [h]; rfl
theorem q1_unq {b c : UInt8} {t r : T} (h : q1 b t = some (c, r)) : unq c.toNat = false := by
  unfold q1 at h
  split at h
  · cases h
  · rename_i hc
    split at h
    · cases t with
      | nil => cases h
      | cons e r' =>
        simp only [Option.map_eq_some_iff] at h
        obtain ⟨c', hc', e2⟩ := h
        injection e2 with e2 _
        subst e2
        exact unesc_unq hc'
    · injection h with h
      injection h with h _
      subst h
      exact ctl_unq (by simpa using hc)
theorem qt_unq : ∀ (f : Nat) (acc t x r : T), NoUnq acc → qt f acc t = some (x, r) → NoUnq x
  | 0, _, _, _, _, _, h => by cases h
  | f + 1, acc, [], _, _, _, h => by cases h
  | f + 1, acc, b :: t, x, r, ha, h => by
    rw [qt] at h
    split at h
    · injection h with h; injection h with h _; rw [← h]; exact ha
    · cases hq : q1 b t with
      | none => rw [hq] at h; cases h
      | some y =>
        rw [hq] at h
        refine qt_unq f (acc ++ [y.1]) y.2 x r (fun c hc => ?_) h
        rcases List.mem_append.1 hc with hc | hc
        · exact ha c hc
        · simp only [List.mem_singleton] at hc
          subst hc
          exact q1_unq (c := y.1) (r := y.2) hq
theorem plain_unq {s : T} (h : isPlain s = true) : NoUnq s := fun b hb => by
  have hc := (plain_parts h).2.1
  unfold hasCtl at hc
  rw [List.any_eq_false] at hc
  exact ctl_unq (by simpa using hc b hb)
theorem qw_unq {l x r : T} (h : qw l = some (x, r)) : NoUnq x := by
  unfold qw at h
  split at h
  · exact qt_unq _ [] _ _ _ (fun b hb => by cases hb) h
  · split at h
    · rename_i hw
      injection h with h; injection h with h _
      rw [← h]
      exact plain_unq (word_parts hw).1
    · cases h
theorem item_unq {l : T} {x : T × T} (h : item l = some x) : NoUnq x.1 := by
  unfold item at h
  rw [Option.map_eq_some_iff] at h
  obtain ⟨y, hy, e⟩ := h
  subst e
  exact qw_unq (x := y.1) (r := y.2) hy
theorem itemsF_unq : ∀ (f : Nat) (acc : List T) (l : T) (x : List T × T), (∀ s ∈ acc, NoUnq s) → itemsF f acc l = some x → ∀ s ∈ x.1, NoUnq s
  | 0, _, _, _, _, h => by cases h
  | f + 1, acc, l, x, ha, h => by
    rw [itemsF] at h
    split at h
    · cases hi : item l.tail with
      | none => rw [hi] at h; cases h
      | some y =>
        rw [hi] at h
        refine itemsF_unq f (acc ++ [y.1]) y.2 x (fun s hs => ?_) h
        rcases List.mem_append.1 hs with hs | hs
        · exact ha s hs
        · simp only [List.mem_singleton] at hs
          subst hs
          exact item_unq hi
    · split at h
      · injection h with h; subst h; exact ha
      · cases h
theorem list_unq {t : T} {x : List T × T} (h : list t = some x) : ∀ s ∈ x.1, NoUnq s := by
  unfold list at h
  split at h
  · injection h with h; subst h; intro s hs; cases hs
  · cases hi : item (bare t) with
    | none => rw [hi] at h; cases h
    | some y =>
      rw [hi] at h
      refine itemsF_unq _ [y.1] y.2 x (fun s hs => ?_) h
      simp only [List.mem_singleton] at hs
      subst hs
      exact item_unq hi
theorem value_ok {u : T} {x : Leaf × T} (h : value u = some x) : LeafOk x.1 := by
  unfold value at h
  split at h
  · rw [Option.map_eq_some_iff] at h
    obtain ⟨y, hy, e⟩ := h
    subst e
    exact .inr (.inl ⟨rfl, qt_unq _ [] _ y.1 y.2 (fun b hb => by cases hb) hy, rfl⟩)
  · split at h
    · rw [Option.map_eq_some_iff] at h
      obtain ⟨y, hy, e⟩ := h
      subst e
      exact .inr (.inr ⟨rfl, rfl, list_unq hy⟩)
    · rw [Option.map_eq_some_iff] at h
      obtain ⟨y, hy, e⟩ := h
      subst e
      unfold plainOf at hy
      split at hy
      · rename_i hp
        injection hy with hy
        subst hy
        exact .inr (.inl ⟨rfl, plain_unq hp, rfl⟩)
      · cases hy
theorem read_ok {s : T} {ln : Line} (h : read s = some ln) : isKey ln.key = true ∧ LeafOk ln.node := by
  unfold read readK at h
  split at h
  · rename_i hk
    split at h
    · unfold readR at h
      split at h
      · injection h with h; subst h; exact ⟨hk, .inl ⟨rfl, rfl, rfl⟩⟩
      · split at h
        · cases h
        · split at h
          · injection h with h; subst h; exact ⟨hk, .inl ⟨rfl, rfl, rfl⟩⟩
          · unfold readV at h
            split at h
            · cases h
            · rename_i x hv
              split at h
              · injection h with h; subst h; exact ⟨hk, value_ok hv⟩
              · cases h
    · cases h
  · cases h
theorem keysF_snoc (ok : Nd → Bool) : ∀ (l seen : List (T × Nd)) (y : T × Nd), keysF ok seen (l ++ [y]) = (keysF ok seen l && (isKey y.1 && (find (seen ++ l) y.1).isNone && ok y.2))
  | [], seen, y => by simp [keysF]
  | z :: l, seen, y => by
    rw [List.cons_append, keysF, keysF, keysF_snoc ok l, List.append_assoc]
    simp only [List.cons_append, List.nil_append]
    cases isKey z.1 && (find seen z.1).isNone && ok z.2 <;> simp
theorem find_map {l l' : List (T × Nd)} (h : l.map (·.1) = l'.map (·.1)) (k : T) : (find l k).isNone = (find l' k).isNone := by
  unfold find
  induction l generalizing l' with
  | nil =>
    cases l' with
    | nil => rfl
    | cons y r => simp at h
  | cons x l ih =>
    cases l' with
    | nil => simp at h
    | cons y r =>
      simp only [List.map_cons, List.cons.injEq] at h
      rw [List.findIdx?_cons, List.findIdx?_cons, h.1]
      split
      · rfl
      · simp only [Option.isNone_map]
        exact ih h.2
/-- the last key's map is open, and empty so far -/
def Open1 (ks : List (T × Nd)) : Prop := ∃ l key, ks = l ++ [(key, .mk 0 [] [] [])]
/-- what maps may be, the innermost one first -/
def Lv : List L → Prop
  | [] => True
  | a :: r => keysF (fun y => nodeF (9 - r.length) (r.length + 1) y) [] a.2 = true ∧ a.2.length ≤ 256 ∧ r.length ≤ 8 ∧ (∀ b r', r = b :: r' → Open1 b.2) ∧ Lv r
theorem Lv.pop {a b : L} {r : List L} (h : Lv (a :: b :: r)) : Lv (K.pop a b :: r) := by
  obtain ⟨h1, h2, h3, h4, h5, h6, h7, h8, h9⟩ := h
  obtain ⟨l, key, e⟩ := h4 b r rfl
  unfold K.pop
  rw [e, setLast_snoc]
  simp only [List.length_cons] at h1 h3
  refine ⟨?_, ?_, h7, h8, h9⟩
  · rw [e, keysF_snoc] at h5
    simp only [Bool.and_eq_true] at h5
    show keysF _ [] (l ++ [(key, Nd.mk 0 [] [] a.2)]) = true
    rw [keysF_snoc]
    simp only [Bool.and_eq_true]
    refine ⟨h5.1, h5.2.1, ?_⟩
    rw [show 9 - r.length = (9 - (r.length + 1)) + 1 from by omega, nodeF_eq, if_pos (show (Nd.mk 0 [] [] a.2).k = 0 from rfl)]
    simp only [Bool.and_eq_true, decide_eq_true_eq, List.isEmpty_iff]
    exact ⟨⟨rfl, rfl⟩, ⟨h3, h2⟩, h1⟩
  · rw [e] at h6
    simpa using h6
theorem Lv.downF : ∀ (f ind : Nat) {st : List L}, Lv st → Lv (downF f ind st)
  | 0, _, _, h => h
  | f + 1, ind, [], h => h
  | f + 1, ind, [a], h => h
  | f + 1, ind, (a : L) :: b :: r, h => by
    show Lv (if ind < a.1 then K.downF f ind (K.pop a b :: r) else a :: b :: r)
    split
    · exact Lv.downF f ind h.pop
    · exact h
theorem Lv.allF : ∀ (f : Nat) {st : List L}, st.length ≤ f → Lv st → st ≠ [] → right (.mk 0 [] [] (allF f st)) = true
  | f, [], _, _, hne => absurd rfl hne
  | 0, a :: r, hl, _, _ => by simp at hl
  | f + 1, [a], _, h, _ => by
    obtain ⟨h1, h2, _⟩ := h
    show right (.mk 0 [] [] a.2) = true
    unfold right
    rw [Bool.and_eq_true, decide_eq_true_eq]
    refine ⟨rfl, ?_⟩
    rw [nodeF_eq, if_pos (show (Nd.mk 0 [] [] a.2).k = 0 from rfl)]
    simp only [Bool.and_eq_true, decide_eq_true_eq, List.isEmpty_iff]
    exact ⟨⟨rfl, rfl⟩, ⟨Nat.zero_le _, h2⟩, h1⟩
  | f + 1, a :: b :: r, hl, h, _ => Lv.allF f (by simp at hl ⊢; omega) h.pop (by simp)
/-- between lines: the last key that was read has no keys yet -/
def Fresh (st : List L) : Prop := ∀ a r, st = a :: r → ∀ y, a.2.getLast? = some y → y.2.p = []
theorem Lv.begins {st : List L} (h : Lv st) (hf : Fresh st) (ind : Nat) : Lv (begins ind st) := by
  cases st with
  | nil => exact h
  | cons a r =>
    show Lv (if (waits a.2 && decide (a.1 < ind)) = true then (ind, []) :: a :: r else a :: r)
    split
    · rename_i hc
      rw [Bool.and_eq_true] at hc
      have hw := hc.1
      obtain hn | ⟨l, y, e⟩ := List.eq_nil_or_concat a.2
      · rw [hn] at hw; cases hw
      · have e : a.2 = l ++ [y] := by simpa using e
        have hk := h.1
        rw [e, keysF_snoc] at hk
        simp only [Bool.and_eq_true] at hk
        have hp := hf a r rfl y (by rw [e]; simp)
        have h0 : y.2.k = 0 := by
          unfold waits at hw
          rw [e] at hw
          simpa using hw
        have hn := hk.2.2
        have h8 := h.2.2.1
        rw [show 9 - r.length = (9 - (r.length + 1)) + 1 from by omega, nodeF_eq, if_pos h0] at hn
        simp only [Bool.and_eq_true, decide_eq_true_eq, List.isEmpty_iff] at hn
        refine ⟨rfl, by simp, hn.2.1.1, fun b r' e' => ?_, h⟩
        injection e' with e1 _
        rw [← e1]
        refine ⟨l, y.1, ?_⟩
        rw [e]
        congr 2
        have := Nd.eta y.2
        rw [h0, hn.1.1, hn.1.2, hp] at this
        rw [← this]
    · exact h
theorem Lv.addTo {st st' : List L} {ln : Line} (h : Lv st) (hk : isKey ln.key = true) (hl : LeafOk ln.node) (he : addTo ln st = .ok st') : Lv st' ∧ Fresh st' ∧ st' ≠ [] := by
  cases st with
  | nil => cases he
  | cons a r =>
    simp only [K.addTo] at he
    split at he
    · cases he
    · rename_i g1
      split at he
      · cases he
      · rename_i g2
        split at he
        · cases he
        · rename_i g3
          split at he
          · cases he
          · rename_i g4
            split at he
            · cases he
            · rename_i g5
              injection he with he
              subst he
              obtain ⟨h1, h2, h3, h4, h5⟩ := h
              refine ⟨⟨?_, by simp; omega, h3, h4, h5⟩, fun b r' e y hy => ?_, by simp⟩
              · show keysF _ [] (a.2 ++ [(ln.key, ln.node.nd)]) = true
                rw [keysF_snoc]
                simp only [Bool.and_eq_true, List.nil_append]
                have hfn : (find a.2 ln.key).isNone = true := by
                  cases hq : find a.2 ln.key with
                  | none => rfl
                  | some j => rw [hq] at g4; exact absurd rfl g4
                refine ⟨h1, ⟨hk, hfn⟩, ?_⟩
                rw [show 9 - r.length = (9 - (r.length + 1)) + 1 from by omega, nodeF_eq]
                simp only [Bool.or_eq_true, decide_eq_true_eq, not_or, Bool.not_eq_true, List.any_eq_false] at g2
                rcases hl with ⟨e0, et, el⟩ | ⟨e1, et, el⟩ | ⟨e2, et, el⟩
                · have hk0 : ln.node.nd.k = 0 := e0
                  rw [if_pos hk0]
                  have h8 : r.length + 1 ≤ 8 := by
                    by_cases q : r.length + 1 ≤ 8
                    · exact q
                    · exact absurd ⟨e0, q⟩ g1
                  simp only [Bool.and_eq_true, decide_eq_true_eq, List.isEmpty_iff]
                  exact ⟨⟨et, el⟩, ⟨h8, by simp [Leaf.nd, Nd.p]⟩, rfl⟩
                · have hk1 : ln.node.nd.k = 1 := e1
                  rw [if_neg (by omega), if_pos hk1]
                  simp only [Bool.and_eq_true, decide_eq_true_eq]
                  refine ⟨?_, by simp [Leaf.nd, Nd.p, Nd.l, el]⟩
                  show isText ln.node.text = true
                  unfold isText
                  simp only [Bool.and_eq_true, Bool.not_eq_true', decide_eq_false_iff_not, List.any_eq_false]
                  exact ⟨g2.1, fun b hb => by rw [et b hb]; decide⟩
                · have hk2 : ln.node.nd.k = 2 := e2
                  rw [if_neg (by omega), if_neg (by omega), if_pos hk2]
                  simp only [Bool.and_eq_true, List.isEmpty_iff]
                  refine ⟨⟨et, ?_⟩, rfl⟩
                  show textsOk ln.node.list = true
                  unfold textsOk
                  simp only [Bool.and_eq_true, Bool.not_eq_true', decide_eq_true_eq, List.any_eq_false]
                  refine ⟨by omega, fun s hs => ?_⟩
                  have hle := g2.2 s hs
                  have : isText s = true := by
                    unfold isText
                    simp only [Bool.and_eq_true, Bool.not_eq_true', decide_eq_false_iff_not, List.any_eq_false]
                    exact ⟨by simpa using hle, fun b hb => by rw [el s hs b hb]; decide⟩
                  rw [this]; decide
              · injection e with e1 _
                rw [← e1] at hy
                simp only [List.getLast?_append, List.getLast?_singleton, Option.some_or, Option.some.injEq] at hy
                rw [← hy]
                rfl
theorem Lv.step {st st' : List L} {t : T} (h : Lv st) (hf : Fresh st) (he : step st t = .ok st') : Lv st' ∧ Fresh st' ∧ st' ≠ [] := by
  unfold K.step at he
  cases hr : read t with
  | none => rw [hr] at he; cases he
  | some ln =>
    rw [hr] at he
    obtain ⟨hk, hl⟩ := read_ok hr
    simp only [add] at he
    cases hq : reach ln.indent st with
    | none => rw [hq] at he; cases he
    | some s1 =>
      rw [hq] at he
      refine Lv.addTo (st := s1) ?_ hk hl he
      unfold reach at hq
      have hd : Lv (downs ln.indent (K.begins ln.indent st)) := Lv.downF _ _ (h.begins hf _)
      cases hx : downs ln.indent (K.begins ln.indent st) with
      | nil => rw [hx] at hq; cases hq
      | cons a r =>
        rw [hx] at hq hd
        have hq : (if ln.indent = a.1 then some (a :: r) else none) = some s1 := hq
        split at hq
        · injection hq with hq; rw [← hq]; exact hd
        · cases hq
theorem Lv.steps : ∀ (l : List (Nat × T)) {st st' : List L}, Lv st → Fresh st → st ≠ [] → steps st l = .ok st' → Lv st' ∧ st' ≠ []
  | [], st, st', h, _, hne, he => by simp only [K.steps, Except.ok.injEq] at he; rw [← he]; exact ⟨h, hne⟩
  | x :: l, st, st', h, hf, hne, he => by
    simp only [K.steps] at he
    cases hs : K.step st x.2 with
    | error c => rw [hs] at he; cases he
    | ok s1 =>
      rw [hs] at he
      obtain ⟨h1, h2, h3⟩ := h.step hf hs
      exact Lv.steps l h1 h2 h3 he
/-- what is parsed is right -/
theorem parse_right {s : T} {p : List (T × Nd)} (h : parse s = .ok p) : right (.mk 0 [] [] p) = true := by
  unfold parse at h
  split at h
  · cases h
  · cases hs : K.steps st0 (linesOf s) with
    | error e => rw [hs] at h; cases h
    | ok st =>
      rw [hs] at h
      injection h with h
      obtain ⟨hl, hne⟩ := Lv.steps _ (st := st0) ⟨rfl, by simp, by simp, (fun b r e => by cases e), trivial⟩ (fun a r e y hy => by injection e with e _; rw [← e] at hy; simp at hy) (by simp [st0]) hs
      rw [← h]
      exact Lv.allF _ (Nat.le_refl _) hl hne
end K
end Go.Proofs.YtegobomfhdfodaaGreatDoor
