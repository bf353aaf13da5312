/- HTTP: OF WHAT IS READ, EACH BEGINNING; WHAT COMES BEHIND (mathematics). -/
import Derived.Test.YtjkinjfbjbehjaaGreatDoorGao
namespace Go.Proofs.YtjkinjfbjbehjaaGreatDoor
set_option linter.unusedVariables false
set_option linter.unusedSimpArgs false
set_option maxRecDepth 100000
namespace H
structure GoodAt {α : Type} (f : T → R α) (l : T) : Prop where
  one : ∀ a r, f l = .ok (a, r) → ∃ m, l = m ++ r ∧ (∀ x, f (m ++ x) = .ok (a, x)) ∧ ∀ k, k < m.length → f (m.take k) = .error 14
  bad : ∀ e, f l = .error e → e ≠ 14 → ∀ x, f (l ++ x) = .error e
theorem good_bind {α β : Type} {f : T → R α} {g : α → T → R β} {h : T → R β} (h2 : ∀ l, (∀ e, f l = .error e → h l = .error e) ∧ ∀ a r, f l = .ok (a, r) → h l = g a r) (hf : ∀ l, GoodAt f l) (l : T) (hg : ∀ a r, f l = .ok (a, r) → GoodAt (g a) r) : GoodAt h l := by
  have hh : ∀ l, h l = match f l with | .error e => .error e | .ok (a, r) => g a r := fun l => by
    cases hl : f l with
    | error e => exact (h2 l).1 e hl
    | ok p => exact (h2 l).2 p.1 p.2 hl
  clear h2
  refine ⟨fun a r e => ?_, fun e he hne x => ?_⟩
  · rw [hh] at e
    cases hfl : f l with
    | error c => rw [hfl] at e; cases e
    | ok p =>
      obtain ⟨b, s⟩ := p
      rw [hfl] at e
      simp only at e
      obtain ⟨m1, e1, h1, k1⟩ := (hf l).one b s hfl
      obtain ⟨m2, e2, h2, k2⟩ := (hg b s hfl).one a r e
      refine ⟨m1 ++ m2, by rw [e1, e2, List.append_assoc], fun x => ?_, fun k hk => ?_⟩
      · rw [hh, List.append_assoc, h1]
        exact h2 x
      · rw [hh, List.take_append]
        by_cases hk1 : k < m1.length
        · rw [show k - m1.length = 0 from by omega, List.take_zero, List.append_nil, k1 k hk1]
        · rw [List.take_of_length_le (by omega), h1]
          exact k2 _ (by simp at hk; omega)
  · rw [hh] at he ⊢
    cases hfl : f l with
    | error c =>
      rw [hfl] at he
      simp only [Except.error.injEq] at he
      subst he
      rw [(hf l).bad _ hfl hne x]
    | ok p =>
      obtain ⟨b, s⟩ := p
      rw [hfl] at he
      simp only at he
      obtain ⟨m1, e1, h1, k1⟩ := (hf l).one b s hfl
      rw [e1, List.append_assoc, h1]
      exact (hg b s hfl).bad e he hne x
theorem good_pure {α : Type} (a : α) (l : T) : GoodAt (fun l => (.ok (a, l) : R α)) l := by
  refine ⟨fun b r e => ?_, fun e he _ _ => by cases he⟩
  simp only [Except.ok.injEq, Prod.mk.injEq] at e
  obtain ⟨rfl, rfl⟩ := e
  exact ⟨[], rfl, fun x => rfl, fun k hk => by simp at hk⟩
theorem good_error {α : Type} (e : Int) (l : T) : GoodAt (fun _ => (.error e : R α)) l :=
  ⟨fun a r h => (by cases h), fun e' he _ x => he⟩
theorem good_except {α : Type} (c : Except Int α) (l : T) : GoodAt (fun l => (match c with | .error e => .error e | .ok a => .ok (a, l) : R α)) l := by
  cases c with
  | error e => exact good_error e l
  | ok a => exact good_pure a l
/- the line -/
theorem idx_app (a b : T) (c : UInt8) (h : 0 ≤ Lib.indexByte a c) : Lib.indexByte (a ++ b) c = Lib.indexByte a c := by
  induction a with
  | nil => simp [Lib.indexByte] at h
  | cons x t ih =>
    simp only [List.cons_append, Lib.indexByte] at h ⊢
    by_cases hx : x = c
    · simp [hx]
    · simp only [beq_iff_eq, hx, if_false] at h ⊢
      by_cases h1 : Lib.indexByte t c = -1
      · rw [h1] at h; simp at h
      · have h2 : 0 ≤ Lib.indexByte t c := by
          rcases idx_cases t c with h3 | ⟨n, h3, _⟩
          · exact absurd h3 h1
          · omega
        rw [ih h2]
theorem idx_none (a : T) (c : UInt8) (h : c ∉ a) : Lib.indexByte a c = -1 := by
  induction a with
  | nil => rfl
  | cons x t ih =>
    have hx : ¬ x = c := fun e => h (by simp [e])
    simp only [Lib.indexByte, beq_iff_eq, hx, if_false, ih (fun e => h (by simp [e]))]
    rfl
theorem idx_split : ∀ (a : T) (c : UInt8) (n : Nat), Lib.indexByte a c = (n : Int) → c ∉ a.take n ∧ a.take (n + 1) = a.take n ++ [c]
  | [], c, n, h => by simp [Lib.indexByte] at h <;> omega
  | x :: t, c, n, h => by
    simp only [Lib.indexByte, beq_iff_eq] at h
    by_cases hx : x = c
    · subst hx
      rw [if_pos rfl] at h
      obtain rfl : n = 0 := by omega
      exact ⟨by simp, by simp⟩
    · rw [if_neg hx] at h
      rcases idx_cases t c with h3 | ⟨k, h3, _⟩
      · rw [h3] at h; simp at h <;> omega
      · rw [h3, if_neg (by omega)] at h
        obtain rfl : n = k + 1 := by omega
        obtain ⟨i1, i2⟩ := idx_split t c k h3
        refine ⟨?_, by rw [List.take_succ_cons, i2, List.take_succ_cons]; rfl⟩
        rw [List.take_succ_cons]
        simp only [List.mem_cons, not_or]
        exact ⟨fun e => hx e.symm, i1⟩
theorem line_ok {l t r : T} (h : line l = .ok (t, r)) : l = t ++ 13 :: 10 :: r ∧ (10 : UInt8) ∉ t ∧ t.length ≤ 4096 := by
  unfold line at h
  simp only at h
  split at h
  · cases h
  · split at h
    · cases h
    · split at h
      · rename_i h1 h2 h3
        simp only [Except.ok.injEq, Prod.mk.injEq] at h
        obtain ⟨h4, h5⟩ := h
        rcases idx_cases (l.take 4098) 10 with h6 | ⟨n, h6, hn⟩
        · omega
        rw [h6] at h3 h4 h5
        simp only [Int.toNat_natCast] at h3 h4 h5
        rw [List.length_take] at hn
        obtain ⟨i1, i2⟩ := idx_split _ _ _ h6
        rw [List.take_take, Nat.min_eq_left (by omega)] at i1 i2
        rw [List.take_take, Nat.min_eq_left (by omega)] at i2
        unfold Lib.trimSuffix at h4
        rw [if_pos h3, i2] at h4
        unfold Lib.hasSuffix at h3
        obtain ⟨u, hu⟩ := List.isSuffixOf_iff_suffix.1 h3
        have hl2 : (l.take n).length = n := by rw [List.length_take]; omega
        rw [i2] at hu
        have hu2 : u ++ [13] = l.take n := by
          have : (u ++ [13]) ++ [10] = l.take n ++ [10] := by rw [← hu]; simp
          exact List.append_cancel_right this
        have h7 : t = u := by
          rw [← h4, ← hu2]
          simp
        subst h7
        have hlen : t.length + 1 = n := by rw [← hl2, ← hu2]; simp
        refine ⟨?_, fun hm => i1 (by rw [← hu2]; simp [hm]), by omega⟩
        calc l = l.take (n + 1) ++ l.drop (n + 1) := (List.take_append_drop _ _).symm
          _ = t ++ 13 :: 10 :: r := by rw [i2, ← hu2, h5]; simp
      · cases h
theorem line_more (a : T) (h : (10 : UInt8) ∉ a) (hl : a.length < 4098) : line a = .error 14 := by
  unfold line
  have : Lib.indexByte (a.take 4098) 10 = -1 := idx_none _ _ (fun hm => h (List.mem_of_mem_take hm))
  simp only [this]
  rw [if_neg (by omega), if_pos (by omega)]
theorem good_line (l : T) : GoodAt line l := by
  refine ⟨fun t r h => ?_, fun e he hne x => ?_⟩
  · obtain ⟨h1, h2, h3⟩ := line_ok h
    refine ⟨t ++ [13, 10], by rw [h1]; simp, fun x => ?_, fun k hk => ?_⟩
    · have := line_crlf t x h2 h3
      simpa using this
    · refine line_more _ (fun hm => ?_) (by simp only [List.length_take, List.length_append, List.length_cons, List.length_nil] at hk ⊢; omega)
      simp only [List.length_append, List.length_cons, List.length_nil] at hk
      rw [List.take_append] at hm
      rcases List.mem_append.1 hm with hm | hm
      · exact h2 (List.mem_of_mem_take hm)
      · have : k - t.length ≤ 1 := by omega
        have h9 : (10 : UInt8) ∈ ([13] : T) := by
          have e1 : ([13, 10] : T).take (k - t.length) = ([13] : T).take (k - t.length) := by
            rcases Nat.le_one_iff_eq_zero_or_eq_one.1 this with h | h <;> rw [h] <;> rfl
          rw [e1] at hm
          exact List.mem_of_mem_take hm
        simp at h9
  · unfold line at he ⊢
    simp only at he ⊢
    split at he
    · rename_i h1
      simp only [Except.error.injEq] at he
      subst he
      have e1 : (l ++ x).take 4098 = l.take 4098 := by rw [List.take_append, show 4098 - l.length = 0 from by omega]; simp
      rw [e1, if_pos ⟨h1.1, by simp; omega⟩]
    · rename_i h1
      split at he
      · simp only [Except.error.injEq] at he; exact absurd he.symm hne
      · rename_i h2
        have h2 : 0 ≤ Lib.indexByte (l.take 4098) 10 := by omega
        rcases idx_cases (l.take 4098) 10 with h6 | ⟨n, h6, hn⟩
        · omega
        rw [List.length_take] at hn
        have e1 : Lib.indexByte ((l ++ x).take 4098) 10 = Lib.indexByte (l.take 4098) 10 := by
          rw [List.take_append]; exact idx_app _ _ _ h2
        rw [e1, h6]
        rw [h6] at he
        have e2 : (l ++ x).take (((n : Nat) : Int).toNat + 1) = l.take (((n : Nat) : Int).toNat + 1) := by
          rw [List.take_append, show ((n : Nat) : Int).toNat + 1 - l.length = 0 from by simp; omega]; simp
        split at he
        · cases he
        · rename_i h3
          rw [if_neg (by omega), if_neg (by omega), e2, if_neg h3]
          exact he
/- what has so many bytes -/
theorem good_part (most : Int) (n a : Nat) (l : T) : GoodAt (part most n a) l := by
  refine ⟨fun t r h => ?_, fun e he hne x => ?_⟩
  · unfold part at h
    split at h
    · cases h
    · split at h
      · cases h
      · rename_i h1 h2
        simp only [Except.ok.injEq, Prod.mk.injEq] at h
        obtain ⟨rfl, rfl⟩ := h
        have hl : (l.take n).length = n := by rw [List.length_take]; omega
        refine ⟨l.take n, (List.take_append_drop _ _).symm, fun x => ?_, fun k hk => ?_⟩
        · unfold part
          rw [if_neg h1, if_neg (by rw [List.length_append, hl]; omega), List.take_append_of_le_length (by omega), List.take_of_length_le (by omega)]
          rw [List.drop_append, hl, List.drop_of_length_le (by omega)]
          simp
        · unfold part
          rw [if_neg h1, if_pos (by rw [List.length_take, hl]; omega)]
  · unfold part at he ⊢
    split at he
    · rename_i h1
      rw [if_pos h1]; exact he
    · split at he
      · simp only [Except.error.injEq] at he; exact absurd he.symm hne
      · cases he
theorem good_end (l : T) : GoodAt endR l := by
  refine ⟨fun t r h => ?_, fun e he hne x => ?_⟩
  · match l, h with
    | [], h => cases h
    | [a], h =>
      simp only [endR] at h
      split at h <;> cases h
    | a :: b :: u, h =>
      simp only [endR] at h
      split at h
      · rename_i h1
        split at h
        · rename_i h2
          simp only [Except.ok.injEq, Prod.mk.injEq] at h
          obtain ⟨_, rfl⟩ := h
          subst h1 h2
          refine ⟨[13, 10], rfl, fun x => by simp [endR], fun k hk => ?_⟩
          simp only [List.length_cons, List.length_nil] at hk
          rcases Nat.le_one_iff_eq_zero_or_eq_one.1 (by omega : k ≤ 1) with h | h <;> subst h <;> simp [endR]
        · cases h
      · cases h
  · match l, he with
    | [], he => simp only [endR, Except.error.injEq] at he; exact absurd he.symm hne
    | [a], he =>
      simp only [endR] at he
      split at he
      · simp only [Except.error.injEq] at he; exact absurd he.symm hne
      · rename_i h1
        cases x <;> simp only [List.cons_append, List.nil_append, endR, if_neg h1] <;> exact he
    | a :: b :: u, he =>
      simp only [List.cons_append, endR] at he ⊢
      split at he
      · rename_i h1
        rw [if_pos h1]
        split at he
        · cases he
        · rename_i h2
          rw [if_neg h2]; exact he
      · rename_i h1
        rw [if_neg h1]; exact he
end H
end Go.Proofs.YtjkinjfbjbehjaaGreatDoor

/- HTTP: OF A REQUEST, EACH BEGINNING; WHAT COMES BEHIND (mathematics). -/
namespace Go.Proofs.YtjkinjfbjbehjaaGreatDoor
set_option linter.unusedVariables false
set_option linter.unusedSimpArgs false
set_option maxRecDepth 100000
namespace H
theorem GoodAt.congr {α : Type} {f g : T → R α} (h : ∀ l, f l = g l) {l : T} (hg : GoodAt g l) : GoodAt f l := by
  have : f = g := funext h
  rw [this]; exact hg
/- the heads -/
def headsW (f : Fr) (l : T) : R Fr := headsF (l.length + 1) f l
theorem headsF_fuel : ∀ (n m : Nat) (f : Fr) (l : T), l.length < n → l.length < m → headsF n f l = headsF m f l
  | 0, _, _, _, h, _ => absurd h (by omega)
  | _ + 1, 0, _, _, _, h => absurd h (by omega)
  | n + 1, m + 1, f, l, h1, h2 => by
    simp only [headsF]
    cases hl : line l with
    | error e => rfl
    | ok p =>
      obtain ⟨t, r⟩ := p
      have := (line_len hl).2.1
      simp only
      split
      · rfl
      · split
        · rfl
        · split
          · rfl
          · exact headsF_fuel n m _ r (by omega) (by omega)
def headsK (f : Fr) (t r : T) : R Fr :=
  if t = [] then .ok (f, r)
  else match head t with
    | .error e => .error e
    | .ok h => match addHead f h with
      | .error e => .error e
      | .ok f' => headsW f' r
theorem headsW_eq (f : Fr) (l : T) : (∀ e, line l = .error e → headsW f l = .error e) ∧ ∀ t r, line l = .ok (t, r) → headsW f l = headsK f t r := by
  refine ⟨fun e he => by unfold headsW; simp only [headsF, he], fun t r hl => ?_⟩
  have := (line_len hl).2.1
  unfold headsW headsK
  simp only [headsF, hl]
  split
  · rfl
  · cases hh : head t with
    | error e => rfl
    | ok d =>
      simp only
      cases ha : addHead f d with
      | error e => rfl
      | ok f' => exact headsF_fuel _ _ _ r (by omega) (by omega)
theorem good_heads : ∀ (N : Nat) (f : Fr) (l : T), l.length < N → GoodAt (headsW f) l
  | 0, _, _, h => absurd h (by omega)
  | N + 1, f, l, h => by
    refine good_bind (headsW_eq f) good_line l fun t r hl => ?_
    have hr := (line_len hl).2.1
    by_cases ht : t = []
    · exact GoodAt.congr (g := fun l => .ok (f, l)) (fun l => by unfold headsK; rw [if_pos ht]) (good_pure f r)
    · cases hh : head t with
      | error e => exact GoodAt.congr (g := fun l => .error e) (fun l => by unfold headsK; rw [if_neg ht, hh]) (good_error e r)
      | ok d =>
        cases ha : addHead f d with
        | error e => exact GoodAt.congr (g := fun l => .error e) (fun l => by unfold headsK; rw [if_neg ht, hh]; simp only [ha]) (good_error e r)
        | ok f' => exact GoodAt.congr (g := headsW f') (fun l => by unfold headsK; rw [if_neg ht, hh]; simp only [ha]) (good_heads N f' r (by omega))
theorem good_headsR (l : T) : GoodAt heads l := good_heads (l.length + 1) ⟨[], [], []⟩ l (by omega)
/- the chunks -/
def sizeK (t r : T) : R Nat := match whole16 (Lib.cut t [59]).1 with | .error e => .error e | .ok n => .ok (n, r)
theorem good_size (l : T) : GoodAt chunkSize l := by
  refine good_bind (g := sizeK) (fun l => ⟨fun e he => by unfold chunkSize; simp only [he], fun t r hl => by unfold chunkSize sizeK; simp only [hl]; cases whole16 (Lib.cut t [59]).1 <;> rfl⟩) good_line l fun t r hl => ?_
  exact GoodAt.congr (g := fun l => (match whole16 (Lib.cut t [59]).1 with | .error e => .error e | .ok a => .ok (a, l) : R Nat)) (fun l => by unfold sizeK; cases whole16 (Lib.cut t [59]).1 <;> rfl) (by cases whole16 (Lib.cut t [59]).1 with | error e => exact good_error e r | ok n => exact good_pure n r)
def chunksW (most : Int) (acc l : T) : R T := chunksF most (l.length + 1) acc l
theorem chunksF_fuel (most : Int) : ∀ (n m : Nat) (acc l : T), l.length < n → l.length < m → chunksF most n acc l = chunksF most m acc l
  | 0, _, _, _, h, _ => absurd h (by omega)
  | _ + 1, 0, _, _, _, h => absurd h (by omega)
  | n + 1, m + 1, acc, l, h1, h2 => by
    simp only [chunksF]
    cases hl : chunkSize l with
    | error e => rfl
    | ok p =>
      obtain ⟨t, r⟩ := p
      have := chunkSize_len hl
      simp only
      split
      · rfl
      · cases hp : part most t acc.length r with
        | error e => rfl
        | ok q =>
          obtain ⟨p, r'⟩ := q
          have := part_len hp
          simp only
          cases he : endR r' with
          | error e => rfl
          | ok q =>
            obtain ⟨u, r''⟩ := q
            have := end_len he
            exact chunksF_fuel most n m _ r'' (by omega) (by omega)
def chunksE (most : Int) (acc p l : T) : R T := match endR l with | .error e => .error e | .ok (_, r) => chunksW most (acc ++ p) r
def chunksP (most : Int) (acc : T) (n : Nat) (l : T) : R T := match part most n acc.length l with | .error e => .error e | .ok (p, r) => chunksE most acc p r
def chunksH (acc l : T) : R T := match heads l with | .error e => .error e | .ok (_, r) => .ok (acc, r)
def chunksK (most : Int) (acc : T) (n : Nat) (l : T) : R T := if n = 0 then chunksH acc l else chunksP most acc n l
theorem chunksW_eq (most : Int) (acc l : T) : (∀ e, chunkSize l = .error e → chunksW most acc l = .error e) ∧ ∀ n r, chunkSize l = .ok (n, r) → chunksW most acc l = chunksK most acc n r := by
  refine ⟨fun e he => by unfold chunksW; simp only [chunksF, he], fun t r hl => ?_⟩
  have := chunkSize_len hl
  unfold chunksW chunksK
  simp only [chunksF, hl]
  split
  · unfold chunksH
    cases heads r <;> rfl
  · unfold chunksP
    cases hp : part most t acc.length r with
    | error e => rfl
    | ok q =>
      obtain ⟨p, r'⟩ := q
      have := part_len hp
      unfold chunksE
      simp only
      cases he : endR r' with
      | error e => rfl
      | ok q =>
        obtain ⟨u, r''⟩ := q
        have := end_len he
        exact chunksF_fuel most _ _ _ r'' (by omega) (by omega)
theorem good_chunks (most : Int) : ∀ (N : Nat) (acc l : T), l.length < N → GoodAt (chunksW most acc) l
  | 0, _, _, h => absurd h (by omega)
  | N + 1, acc, l, h => by
    refine good_bind (chunksW_eq most acc) good_size l fun n r hl => ?_
    have hr := chunkSize_len hl
    by_cases h0 : n = 0
    · refine GoodAt.congr (g := chunksH acc) (fun l => by unfold chunksK; rw [if_pos h0]) ?_
      exact good_bind (g := fun _ r => .ok (acc, r)) (fun l => ⟨fun e he => by unfold chunksH; simp only [he], fun a r ho => by unfold chunksH; simp only [ho]⟩) good_headsR r fun _ r' _ => good_pure acc r'
    · refine GoodAt.congr (g := chunksP most acc n) (fun l => by unfold chunksK; rw [if_neg h0]) ?_
      refine good_bind (g := chunksE most acc) (fun l => ⟨fun e he => by unfold chunksP; simp only [he], fun a r ho => by unfold chunksP; simp only [ho]⟩) (good_part most n acc.length) r fun p r' hp => ?_
      have hr' := part_len hp
      refine good_bind (g := fun _ r => chunksW most (acc ++ p) r) (fun l => ⟨fun e he => by unfold chunksE; simp only [he], fun a r ho => by unfold chunksE; simp only [ho]⟩) good_end r' fun u r'' he => ?_
      have := end_len he
      exact good_chunks most N _ r'' (by omega)
theorem good_body (most : Int) (f : Fr) (l : T) : GoodAt (body most f) l := by
  unfold body
  by_cases h1 : 0 < f.cods.length
  · simp only [if_pos h1]
    split
    · exact good_chunks most (l.length + 1) [] l (by omega)
    · exact good_error 13 l
  · simp only [if_neg h1]
    split
    · split
      · cases hw : whole10 (f.lens.headD []) 9 with
        | error e => exact good_error e l
        | ok n => exact good_part most n 0 l
      · exact good_error 13 l
    · exact good_pure [] l
theorem good_reqLine (l : T) : GoodAt requestLine l := by
  refine good_bind (g := fun t r => if isOf (Lib.cut t [32]).1 tok && isOf (Lib.cut (Lib.cut t [32]).2.1 [32]).1 tgt && decide ((Lib.cut (Lib.cut t [32]).2.1 [32]).2.1 = version) then .ok (((Lib.cut t [32]).1, (Lib.cut (Lib.cut t [32]).2.1 [32]).1), r) else .error 13) (fun l => ⟨fun e he => by unfold requestLine; simp only [he], fun a r ho => by unfold requestLine; simp only [ho]⟩) good_line l fun t r hl => ?_
  by_cases hc : (isOf (Lib.cut t [32]).1 tok && isOf (Lib.cut (Lib.cut t [32]).2.1 [32]).1 tgt && decide ((Lib.cut (Lib.cut t [32]).2.1 [32]).2.1 = version)) = true
  · simp only [if_pos hc]; exact good_pure _ r
  · simp only [if_neg hc]; exact good_error 13 r
def reqB (most : Int) (m t : T) (f : Fr) (l : T) : R Rq := match body most f l with | .error e => .error e | .ok (b, r) => .ok (⟨m, t, f.hs, b⟩, r)
def reqH (most : Int) (mt : T × T) (l : T) : R Rq := match heads l with | .error e => .error e | .ok (f, r) => reqB most mt.1 mt.2 f r
theorem good_req (most : Int) (l : T) : GoodAt (reqR most) l := by
  refine good_bind (g := reqH most) (fun l => ⟨fun e he => by unfold reqR; simp only [he], fun a r ho => ?_⟩) good_reqLine l fun mt r _ => ?_
  · unfold reqR reqH reqB
    obtain ⟨m, t⟩ := a
    simp only [ho]
    cases heads r with
    | error e => rfl
    | ok q =>
      obtain ⟨f, r'⟩ := q
      simp only
      cases body most f r' <;> rfl
  refine good_bind (g := fun f r => reqB most mt.1 mt.2 f r) (fun l => ⟨fun e he => by unfold reqH; simp only [he], fun a r ho => by unfold reqH; simp only [ho]⟩) good_headsR r fun f r' _ => ?_
  exact good_bind (g := fun b r => .ok (⟨mt.1, mt.2, f.hs, b⟩, r)) (fun l => ⟨fun e he => by unfold reqB; simp only [he], fun a r ho => by unfold reqB; simp only [ho]⟩) (good_body most f) r' fun b r'' _ => good_pure _ r''
/- as the law asks -/
theorem bits_more (l x : T) (most : Int) (hm : okMost most) (q : Rq) (r : T) (h : reqR most l = .ok (q, r)) :
    readRequest l most = (q, l.length - r.length, 0) ∧ r.length ≤ l.length ∧ readRequest (l ++ x) most = (q, l.length - r.length, 0) ∧ ∀ k, k < l.length - r.length → (readRequest (l.take k) most).2.2 = 14 := by
  obtain ⟨m, e, h1, h2⟩ := (good_req most l).one q r h
  have hr : l.length - r.length = m.length := by rw [e, List.length_append]; omega
  refine ⟨by unfold readRequest; rw [if_pos hm, h], by rw [e, List.length_append]; omega, ?_, fun k hk => ?_⟩
  · unfold readRequest
    rw [if_pos hm, e, List.append_assoc, h1 (r ++ x)]
    simp only [List.length_append, Prod.mk.injEq, and_true, true_and]
    omega
  · unfold readRequest
    rw [hr] at hk
    have : l.take k = m.take k := by rw [e, List.take_append_of_le_length (by omega)]
    rw [if_pos hm, this, h2 k hk]
theorem bits_bad (l x : T) (most : Int) (hm : okMost most) (c : Int) (h : reqR most l = .error c) (hc : c ≠ 14) : (readRequest (l ++ x) most).2.2 = c := by
  unfold readRequest
  rw [if_pos hm, (good_req most l).bad c h hc x]
end H
end Go.Proofs.YtjkinjfbjbehjaaGreatDoor

/- HTTP: THE WALK OVER SameHeads, SameRequest, of two that are one. -/
namespace Go.Proofs.YtjkinjfbjbehjaaGreatDoor
open Go.RowKit
set_option maxRecDepth 100000
set_option linter.unusedVariables false
set_option linter.unusedSimpArgs false

theorem H.headsF_most : ∀ (n : Nat) (f f' : H.Fr) (l r : H.T), H.headsF n f l = .ok (f', r) → f.hs.length ≤ 64 → f'.hs.length ≤ 64
  | 0, _, _, _, _, h, _ => by cases h
  | n + 1, f, f', l, r, h, hf => by
    simp only [H.headsF] at h
    split at h
    · cases h
    · split at h
      · injection h with h; injection h with h1 h2; subst h1; exact hf
      · split at h
        · cases h
        · split at h
          · cases h
          · rename_i h3 _ _ h4
            refine H.headsF_most n _ f' _ r h ?_
            unfold H.addHead at h4
            split at h4
            · injection h4 with h4; subst h4; exact hf
            · split at h4
              · injection h4 with h4; subst h4; exact hf
              · split at h4
                · injection h4 with h4; subst h4; simp; omega
                · cases h4
theorem H.req_most {most : Int} {l r : H.T} {q : H.Rq} (h : H.reqR most l = .ok (q, r)) : q.hs.length ≤ 64 := by
  unfold H.reqR at h
  split at h
  · cases h
  · split at h
    · cases h
    · rename_i hh
      split at h
      · cases h
      · injection h with h; injection h with h1 h2; subst h1
        exact H.headsF_most _ _ _ _ _ hh (by simp)
/-- the heads stand there -/
def Hds (w : World) (ad : Option Addr) (hs : List H.Hd) : Prop := hs ≠ [] → ∃ g off, ad = some ⟨g, off, none⟩ ∧ g < w.heap.size ∧ ∀ i h, hs[i]? = some h → w.cell? ⟨g, off + i * 2, none⟩ = some (S h.name) ∧ w.cell? ⟨g, off + i * 2 + 1, none⟩ = some (S h.value)
theorem Hds.under {w w' : World} {ad : Option Addr} {hs : List H.Hd} (h : Hds w ad hs) (hb : Below w.heap.size w w') : Hds w' ad hs := fun hne => by
  obtain ⟨g, off, e, hg, hc⟩ := h hne
  refine ⟨g, off, e, Nat.lt_of_lt_of_le hg hb.size, fun i x hx => ?_⟩
  obtain ⟨a, b⟩ := hc i x hx
  exact ⟨(hb.cell (p := ⟨g, off + i * 2, none⟩) hg).trans a, (hb.cell (p := ⟨g, off + i * 2 + 1, none⟩) hg).trans b⟩
theorem flat_at : ∀ (hs : List H.Hd) (i : Nat) (h : H.Hd), hs[i]? = some h → (hs.flatMap hcells)[i * 2]? = some (S h.name) ∧ (hs.flatMap hcells)[i * 2 + 1]? = some (S h.value)
  | [], i, h, e => by simp at e
  | x :: t, 0, h, e => by simp at e; subst e; simp [hcells]
  | x :: t, i + 1, h, e => by
    have := flat_at t i h (by simpa using e)
    rw [show (i + 1) * 2 = i * 2 + 2 from by omega]
    simpa [hcells, List.flatMap_cons] using this
theorem HRow.hds {w : World} {B : Nat} {ad : Option Addr} {n cap : Nat} {hs : List H.Hd} (h : HRow w B (.slice ad n cap) hs) : n = hs.length ∧ Hds w ad hs := by
  obtain ⟨ad', cap', e⟩ := row_form h
  injection e with e1 e2 e3
  refine ⟨e2, fun hne => ?_⟩
  cases hs with
  | nil => exact absurd rfl hne
  | cons x t =>
    have h' := h
    rcases h'.2 with ⟨hv, hn⟩ | ⟨g, cap, cur, hv, hbg, hg, _⟩
    · simp at hn
    injection hv with e4 e5 e6
    subst e4 e5 e6
    refine ⟨g, 0, rfl, blk_lt hg, fun i y hy => ?_⟩
    have hi := (List.getElem?_eq_some_iff.1 hy).1
    obtain ⟨f1, f2⟩ := flat_at _ i y hy
    have hlen : (x :: t).length = t.length + 1 := rfl
    refine ⟨?_, ?_⟩
    · have := World.ownsRow.cellAt h (i * 2) (by omega)
      rw [Nat.zero_add, this]; exact f1
    · have := World.ownsRow.cellAt h (i * 2 + 1) (by omega)
      rw [Nat.zero_add, this]; exact f2
set_option maxHeartbeats 1000000 in
theorem same_any (w : World) (hs : List H.Hd) (a1 a2 : Option Addr) (c1 c2 : Nat) (hmx : hs.length ≤ 64) (h1 : Hds w a1 hs) (h2 : Hds w a2 hs) : Calls Tryz.prog 24 #[.slice a1 hs.length c1, .slice a2 hs.length c2] w fun e w' => e = .returned (.bool true) ∧ ∃ n, w' = w.drewN n := by
  obtain ⟨z, hz⟩ : ∃ z : Int, ((hs.length : Nat) : Int) = z := ⟨_, rfl⟩
  go_enter Tryz.func24, Tryz.ntmps24
  go_wp2
  go_loopw [13] (fun u wr => ∃ (j n : Nat), u = .int .i64 (j : Int) ∧ j ≤ hs.length ∧ wr = w.drewN n) (fun u _ => hs.length - (intOf u).toNat)
  case atStart => exact ⟨0, 0, rfl, Nat.zero_le _, rfl⟩
  case round =>
    obtain ⟨j, n, rfl, hj, rfl⟩ := hrel
    by_cases hlt : j < hs.length
    · have hjz : (j : Int) < z := by omega
      have hne : hs ≠ [] := by rintro rfl; simp at hlt
      obtain ⟨g1, o1, rfl, _, k1⟩ := h1 hne
      obtain ⟨g2, o2, rfl, _, k2⟩ := h2 hne
      obtain ⟨x, hx⟩ : ∃ x, hs[j]? = some x := ⟨_, List.getElem?_eq_getElem hlt⟩
      obtain ⟨p1, p2⟩ := k1 j x hx
      obtain ⟨q1, q2⟩ := k2 j x hx
      clear k1 k2
      go_wp2
      go_quiet (fail)
      go_wp2
      go_roundw
      case rel =>
        exact ⟨j + 1, _, by go_num, by omega, rfl⟩
      case measure => simp [intOf]; omega
    · have hjz : ¬ (j : Int) < z := by omega
      go_wp2
      go_ret
      exact ⟨rfl, _, rfl⟩
set_option maxHeartbeats 2000000 in
theorem sameReq_any (w : World) (m t b : H.T) (hs : List H.Hd) (a1 a2 : Option Addr) (n1 n2 c1 c2 : Nat) (hn1 : n1 = hs.length) (hn2 : n2 = hs.length) (hmx : hs.length ≤ 64) (h1 : Hds w a1 hs) (h2 : Hds w a2 hs) :
    Calls Tryz.prog 17 #[.agg #[S m, S t, .slice a1 n1 c1, S b], .agg #[S m, S t, .slice a2 n2 c2, S b]] w fun e w' => e = .returned (.bool true) ∧ Below w.heap.size w w' := by
  subst hn1 hn2
  obtain ⟨X, hX⟩ : ∃ X, X = (w.alloc (.cells #[S m, S t, .slice a1 hs.length c1, S b] 24)).alloc (.cells #[S m, S t, .slice a2 hs.length c2, S b] 24) := ⟨_, rfl⟩
  have hbX : Below w.heap.size w X := by rw [hX]; exact ((Below.refl _ w).alloc (Nat.le_refl _) _).alloc (by simp) _
  have k0 : X.heap[w.heap.size]? = some (.cells #[S m, S t, .slice a1 hs.length c1, S b] 24 (0, 0)) := by rw [hX]; exact blk_alloc (blk_new w _) _
  have k1 : X.heap[w.heap.size + 1]? = some (.cells #[S m, S t, .slice a2 hs.length c2, S b] 24 (0, 0)) := by rw [hX]; exact blk_at (by simp)
  obtain ⟨x0, x1, x2, x3⟩ := box4 k0
  obtain ⟨y0, y1, y2, y3⟩ := box4 k1
  have hl0 := blk_lt k0
  have hl1 := blk_lt k1
  have hsm := same_any X hs a1 a2 c1 c2 hmx (h1.under hbX) (h2.under hbX)
  have HbX := Lib.hid hbX
  clear hbX h1 h2 k0 k1
  go_enter Tryz.func17, Tryz.ntmps17
  go_upto_region 1 with (fail)
  rw [← hX]
  clear hX
  go_wp2_with (go_at_call 24; with_reducible refine hsm.mono ?_; rintro e w2 ⟨rfl, n, rfl⟩; have HB := Lib.hid (HbX.out.trans ((below_drewN' X n).mono HbX.out.size)))
  go_ret
  exact ⟨rfl, HB.out⟩
end Go.Proofs.YtjkinjfbjbehjaaGreatDoor

/- HTTP: THE WALK OVER HttpBits. -/
namespace Go.Proofs.YtjkinjfbjbehjaaGreatDoor
open Go.RowKit
set_option maxRecDepth 100000
set_option linter.unusedVariables false
set_option linter.unusedSimpArgs false

/-- what a reading hands out -/
theorem rd_any (w : World) (l : H.T) (most : Int) (hm : -9223372036854775808 ≤ most ∧ most ≤ 9223372036854775807) (hl : l.length ≤ 149533581377000) (hT : Tabs w) (q : H.Rq) (n : Nat) (c : Int) (he : H.readRequest l most = (q, n, c)) :
    Calls Tryz.prog 10 #[S l, .int .i64 most] w fun e w' => Below w.heap.size w w' ∧ ∃ ad k cap, e = .returned (.tuple #[.agg #[S q.method, S q.target, .slice ad k cap, S q.body], .int .i64 (n : Int), .int .i64 c]) ∧ k = q.hs.length ∧ Hds w' ad q.hs := by
  refine (readRequest_any w l most hm hl hT).mono fun e w' h => ?_
  rw [he] at h
  obtain ⟨hb, x, hx, v, rfl, hv⟩ := h
  obtain ⟨ad, cap, rfl⟩ := row_form hv
  obtain ⟨_, h2⟩ := HRow.hds hv
  exact ⟨hb, ad, _, cap, hx, rfl, h2⟩
section
variable (w : World) (s b : H.T) (most at_ : Int)
set_option maxHeartbeats 2000000 in
theorem bits_range (hm : -9223372036854775808 ≤ most ∧ most ≤ 9223372036854775807) (hl : s.length + b.length ≤ 149533581377000) (hT : Tabs w) (he : H.readRequest s most = (⟨[], [], [], []⟩, 0, 2)) :
    Calls Tryz.prog 6 #[S s, .int .i64 most, .int .i64 at_, S b] w fun e w' => e = .returned (.bool true) ∧ Below w.heap.size w w' := by
  have hr := fun w hT => rd_any w s most hm (by omega) hT ⟨[], [], [], []⟩ 0 2 he
  have HT := Lib.hid hT
  have HR := Lib.hid hr
  clear hT hr he
  go_enter Tryz.func6, Tryz.ntmps6
  go_wp2_with fail
  refine (lives_any w HT.out).mono ?_
  rintro e w1 ⟨rfl, hb1⟩
  have HT1 := Lib.hid (HT.out.under hb1)
  have HB1 := Lib.hid hb1
  clear hb1 HT
  go_wp2_with fail
  with_reducible refine (HR.out _ HT1.out).mono ?_
  rintro e w2 ⟨hb2, ad, k, cap, rfl, hk, hd⟩
  obtain rfl : k = 0 := hk
  have HB2 := Lib.hid (HB1.out.trans (hb2.mono HB1.out.size))
  clear hb2 HT1 hd
  obtain ⟨X, hX⟩ : ∃ X, X = w2.alloc (.cells #[S [], S [], .slice ad 0 cap, S []] 24) := ⟨_, rfl⟩
  have hbX : Below w2.heap.size w2 X := by rw [hX]; exact (Below.refl _ w2).alloc (Nat.le_refl _) _
  have HX := Lib.hid (HB2.out.trans (hbX.mono HB2.out.size))
  go_upto_region 4 with (fail)
  rw [← hX]
  clear hX
  go_wp2
  go_ret
  exact ⟨rfl, HX.out⟩
set_option maxHeartbeats 2000000 in
theorem bits_bad (hm : -9223372036854775808 ≤ most ∧ most ≤ 9223372036854775807) (hl : s.length + b.length ≤ 149533581377000) (hT : Tabs w) (c : Int) (q : H.Rq) (n : Nat) (d : Int) (h0 : c ≠ 0) (h2 : c ≠ 2)
    (he : H.readRequest s most = (⟨[], [], [], []⟩, 0, c)) (h3 : H.readRequest (s ++ b) most = (q, n, d)) (h4 : c = 14 ∨ d = c) :
    Calls Tryz.prog 6 #[S s, .int .i64 most, .int .i64 at_, S b] w fun e w' => e = .returned (.bool true) ∧ Below w.heap.size w w' := by
  have hr := fun w hT => rd_any w s most hm (by omega) hT _ _ _ he
  have hr2 := fun w hT => rd_any w (s ++ b) most hm (by rw [List.length_append]; omega) hT _ _ _ h3
  have hsb : (⟨s.toArray⟩ : ByteArray) ++ ⟨b.toArray⟩ = ⟨(s ++ b).toArray⟩ := S_app s b
  have HT := Lib.hid hT
  have HR := Lib.hid hr
  have HR2 := Lib.hid hr2
  have H4 := Lib.hid h4
  clear hT hr hr2 h4 he h3
  go_enter Tryz.func6, Tryz.ntmps6
  go_wp2_with fail
  refine (lives_any w HT.out).mono ?_
  rintro e w1 ⟨rfl, hb1⟩
  have HT1 := Lib.hid (HT.out.under hb1)
  have HB1 := Lib.hid hb1
  clear hb1 HT
  go_wp2_with fail
  with_reducible refine (HR.out _ HT1.out).mono ?_
  rintro e w2 ⟨hb2, ad, k, cap, rfl, hk, hd⟩
  obtain rfl : k = 0 := hk
  have HB2 := Lib.hid (HB1.out.trans (hb2.mono HB1.out.size))
  have HT2 := Lib.hid (HT1.out.under hb2)
  clear hb2 HT1 hd HR
  obtain ⟨X, hX⟩ : ∃ X, X = w2.alloc (.cells #[S [], S [], .slice ad 0 cap, S []] 24) := ⟨_, rfl⟩
  have hbX : Below w2.heap.size w2 X := by rw [hX]; exact (Below.refl _ w2).alloc (Nat.le_refl _) _
  have HX := Lib.hid (HB2.out.trans (hbX.mono HB2.out.size))
  have HTX := Lib.hid (HT2.out.under hbX)
  clear hbX HT2
  go_upto_region 4 with (fail)
  rw [← hX]
  clear hX
  go_wp2_with fail
  with_reducible refine (HR2.out _ HTX.out).mono ?_
  rintro e w3 ⟨hb3, ad3, k3, cap3, rfl, rfl, hd3⟩
  have HB3 := Lib.hid (HX.out.trans (hb3.mono HX.out.size))
  clear hb3 hd3 HTX HR2
  obtain ⟨Y, hY⟩ : ∃ Y, Y = w3.alloc (.cells #[S q.method, S q.target, .slice ad3 q.hs.length cap3, S q.body] 24) := ⟨_, rfl⟩
  have hbY : Below w3.heap.size w3 Y := by rw [hY]; exact (Below.refl _ w3).alloc (Nat.le_refl _) _
  have HY := Lib.hid (HB3.out.trans (hbY.mono HB3.out.size))
  clear hbY
  go_upto_region 15 with (fail)
  rw [← hY]
  clear hY
  by_cases h14 : c = 14
  · subst h14
    go_wp2
    go_ret
    exact ⟨rfl, HY.out⟩
  · have hdc := (H4.out).resolve_left h14
    subst hdc
    go_wp2
    go_ret
    exact ⟨rfl, HY.out⟩
set_option maxHeartbeats 4000000 in
theorem bits_ok (hm : -9223372036854775808 ≤ most ∧ most ≤ 9223372036854775807) (ha : -9223372036854775808 ≤ at_ ∧ at_ ≤ 9223372036854775807) (hl : s.length + b.length ≤ 149533581377000) (hT : Tabs w) (q : H.Rq) (n : Nat) (hn : n ≤ s.length) (hmx : q.hs.length ≤ 64)
    (he : H.readRequest s most = (q, n, 0)) (h3 : H.readRequest (s ++ b) most = (q, n, 0)) (h4 : ∀ k, k < n → (H.readRequest (s.take k) most).2.2 = 14) :
    Calls Tryz.prog 6 #[S s, .int .i64 most, .int .i64 at_, S b] w fun e w' => e = .returned (.bool true) ∧ Below w.heap.size w w' := by
  have hr := fun w hT => rd_any w s most hm (by omega) hT _ _ _ he
  have hr2 := fun w hT => rd_any w (s ++ b) most hm (by rw [List.length_append]; omega) hT _ _ _ h3
  have hr3 : ∀ k : Nat, k < n → ∀ w, Tabs w → Calls Tryz.prog 10 #[S (s.take k), .int .i64 most] w fun e w' => Below w.heap.size w w' ∧ ∃ v x, e = .returned (.tuple #[v, .int .i64 x, .int .i64 14]) := fun k hk w hT => by
    obtain ⟨q', n', c', e'⟩ : ∃ q' n' c', H.readRequest (s.take k) most = (q', n', c') := ⟨_, _, _, rfl⟩
    have hc := h4 k hk
    rw [e'] at hc
    simp only at hc
    subst hc
    refine (rd_any w (s.take k) most hm (by rw [List.length_take]; omega) hT _ _ _ e').mono fun e w' h => ?_
    obtain ⟨hb, _, _, _, hx, _⟩ := h
    exact ⟨hb, _, _, hx⟩
  have hsb : (⟨s.toArray⟩ : ByteArray) ++ ⟨b.toArray⟩ = ⟨(s ++ b).toArray⟩ := S_app s b
  obtain ⟨y, hy⟩ : ∃ y : Int, ((s.length : Nat) : Int) = y := ⟨_, rfl⟩
  obtain ⟨z, hz⟩ : ∃ z : Int, ((n : Nat) : Int) = z := ⟨_, rfl⟩
  have hzy : ¬ y < z := by omega
  have hyl : y ≤ 149533581377000 := by omega
  rw [hz] at hr hr2
  have HT := Lib.hid hT
  have HR := Lib.hid hr
  have HR2 := Lib.hid hr2
  have HR3 := Lib.hid hr3
  have Hm := Lib.hid hmx
  clear hT hr hr2 hr3 h4 he h3 hmx
  go_enter Tryz.func6, Tryz.ntmps6
  go_wp2_with fail
  refine (lives_any w HT.out).mono ?_
  rintro e w1 ⟨rfl, hb1⟩
  have HT1 := Lib.hid (HT.out.under hb1)
  have HB1 := Lib.hid hb1
  clear hb1 HT
  go_wp2_with fail
  with_reducible refine (HR.out _ HT1.out).mono ?_
  rintro e w2 ⟨hb2, ad, k, cap, rfl, rfl, hd⟩
  have HB2 := Lib.hid (HB1.out.trans (hb2.mono HB1.out.size))
  have HT2 := Lib.hid (HT1.out.under hb2)
  obtain ⟨X, hX⟩ : ∃ X, X = w2.alloc (.cells #[S q.method, S q.target, .slice ad q.hs.length cap, S q.body] 24) := ⟨_, rfl⟩
  have hbX : Below w2.heap.size w2 X := by rw [hX]; exact (Below.refl _ w2).alloc (Nat.le_refl _) _
  have K1 := Lib.hid (show X.heap[w2.heap.size]? = some (.cells #[S q.method, S q.target, .slice ad q.hs.length cap, S q.body] 24 (0, 0)) from by rw [hX]; exact blk_new w2 _)
  have HX := Lib.hid (HB2.out.trans (hbX.mono HB2.out.size))
  have HTX := Lib.hid (HT2.out.under hbX)
  have D1 := Lib.hid (hd.under hbX)
  clear hbX HT2 hb2 HT1 hd HR
  go_upto_region 4 with (fail)
  rw [← hX]
  clear hX
  go_wp2_with fail
  with_reducible refine (HR2.out _ HTX.out).mono ?_
  rintro e w3 ⟨hb3, ad3, k3, cap3, rfl, rfl, hd3⟩
  have HB3 := Lib.hid (HX.out.trans (hb3.mono HX.out.size))
  have HT3 := Lib.hid (HTX.out.under hb3)
  have D2 := Lib.hid (D1.out.under hb3)
  have K2 := Lib.hid (blk_under K1.out hb3)
  obtain ⟨Y, hY⟩ : ∃ Y, Y = w3.alloc (.cells #[S q.method, S q.target, .slice ad3 q.hs.length cap3, S q.body] 24) := ⟨_, rfl⟩
  have hbY : Below w3.heap.size w3 Y := by rw [hY]; exact (Below.refl _ w3).alloc (Nat.le_refl _) _
  have hk3 : Y.heap[w3.heap.size]? = some (.cells #[S q.method, S q.target, .slice ad3 q.hs.length cap3, S q.body] 24 (0, 0)) := by rw [hY]; exact blk_new w3 _
  have hk2 := blk_under K2.out hbY
  have HY := Lib.hid (HB3.out.trans (hbY.mono HB3.out.size))
  have HTY := Lib.hid (HT3.out.under hbY)
  have hsm := sameReq_any Y q.method q.target q.body q.hs ad3 ad _ _ cap3 cap rfl rfl Hm.out (hd3.under hbY) (D2.out.under hbY)
  obtain ⟨x0, x1, x2, x3⟩ := box4 hk3
  obtain ⟨y0, y1, y2, y3⟩ := box4 hk2
  have hl0 := blk_lt hk3
  have hl1 := blk_lt hk2
  have HS := Lib.hid hsm
  clear hb3 hd3 HTX HR2 hbY D1 D2 K1 K2 HT3 hsm hk3 hk2
  go_upto_region 8 with (fail)
  rw [← hY]
  clear hY
  go_upto_region 10 with (go_at_call 17; with_reducible refine HS.out.mono ?_; rintro e w4 ⟨rfl, hb4⟩; have H4 := Lib.hid (HY.out.trans (hb4.mono HY.out.size)); have HT4 := Lib.hid (HTY.out.under hb4); clear hb4)
  by_cases h0 : at_ < 0
  · go_wp2
    go_ret
    exact ⟨rfl, H4.out⟩
  · by_cases h1 : z ≤ at_
    · have h1' : ¬ at_ < z := by omega
      go_wp2
      go_ret
      exact ⟨rfl, H4.out⟩
    · have h1' : at_ < z := by omega
      obtain ⟨k, rfl⟩ : ∃ k : Nat, at_ = (k : Int) := ⟨at_.toNat, by omega⟩
      have hk := HR3.out k (by omega)
      have hky : (k : Int) ≤ y := by omega
      have hks : k ≤ s.length := by omega
      go_wp2_with fail
      rw [ext_take]
      with_reducible refine (hk _ HT4.out).mono ?_
      rintro e w5 ⟨hb5, v5, x5, rfl⟩
      have H5 := Lib.hid (H4.out.trans (hb5.mono H4.out.size))
      clear hb5
      go_wp2
      go_ret
      exact ⟨rfl, H5.out⟩
end
theorem bits_any (w : World) (s1 s2 : ByteArray) (most at_ : Int) (hm : -9223372036854775808 ≤ most ∧ most ≤ 9223372036854775807) (ha : -9223372036854775808 ≤ at_ ∧ at_ ≤ 9223372036854775807) (hl : s1.size + s2.size ≤ 149533581377000) (hT : Tabs w) :
    Calls Tryz.prog 6 #[.string s1, .int .i64 most, .int .i64 at_, .string s2] w fun e w' => e = .returned (.bool true) ∧ Below w.heap.size w w' := by
  obtain ⟨s, rfl⟩ : ∃ l : H.T, s1 = ⟨l.toArray⟩ := ⟨s1.data.toList, (S_data s1).symm⟩
  obtain ⟨b, rfl⟩ : ∃ l : H.T, s2 = ⟨l.toArray⟩ := ⟨s2.data.toList, (S_data s2).symm⟩
  rw [S_size, S_size] at hl
  by_cases ho : H.okMost most
  · cases hq : H.reqR most s with
    | ok p =>
      obtain ⟨q, r⟩ := p
      obtain ⟨h1, h2, h3, h4⟩ := H.bits_more s b most ho q r hq
      exact bits_ok w s b most at_ hm ha hl hT q _ (by omega) (H.req_most hq) h1 h3 h4
    | error c =>
      have he : H.readRequest s most = (⟨[], [], [], []⟩, 0, c) := by unfold H.readRequest; rw [if_pos ho, hq]
      have hc := H.reqR_ne hq
      by_cases h2 : c = 2
      · subst h2
        exact bits_range w s b most at_ hm hl hT he
      obtain ⟨q, n, d, h3⟩ : ∃ q n d, H.readRequest (s ++ b) most = (q, n, d) := ⟨_, _, _, rfl⟩
      refine bits_bad w s b most at_ hm hl hT c q n d hc h2 he h3 ?_
      by_cases h14 : c = 14
      · exact .inl h14
      · have := H.bits_bad s b most ho c hq h14
        rw [h3] at this
        exact .inr this
  · exact bits_range w s b most at_ hm hl hT (by unfold H.readRequest; rw [if_neg ho])
end Go.Proofs.YtjkinjfbjbehjaaGreatDoor
