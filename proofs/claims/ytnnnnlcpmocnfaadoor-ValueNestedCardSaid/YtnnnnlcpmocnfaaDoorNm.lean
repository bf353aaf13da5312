/- PLAIN MATHEMATICS OF LAYER 1, MORE: what is written is read as the fields that it was. -/
import Derived.Test.YtnnnnlcpmocnfaaDoorMath2
import Derived.Test.YtnnnnlcpmocnfaaDoorWx
import Derived.Test.YtnnnnlcpmocnfaaDoorRv1
import Derived.Outline
import Derived.WalkLawsBesides
import Derived.Deep.RegionLaw
import Derived.Deep.RegionHeld3
namespace Go.Proofs.YtnnnnlcpmocnfaaDoor.M
theorem may_is {f : Fd} (h : may f = true) : 1 ≤ f.num ∧ f.num ≤ 536870911 ∧ ((f.wire = 0 ∧ f.s = []) ∨ (f.wire = 1 ∧ f.s = []) ∨ (f.wire = 5 ∧ f.s = [] ∧ f.n < 4294967296) ∨ (f.wire = 2 ∧ f.n = 0 ∧ f.s.length ≤ 65536)) := by
  simp only [may, Bool.and_eq_true, decide_eq_true_eq] at h
  obtain ⟨⟨h1, h2⟩, h3⟩ := h
  refine ⟨h1, h2, ?_⟩
  by_cases e01 : f.wire = 0 ∨ f.wire = 1
  · rw [if_pos e01] at h3
    have : f.s = [] := by simpa using h3
    rcases e01 with e | e
    · exact .inl ⟨e, this⟩
    · exact .inr (.inl ⟨e, this⟩)
  · rw [if_neg e01] at h3
    by_cases e5 : f.wire = 5
    · rw [if_pos e5] at h3
      simp only [Bool.and_eq_true, decide_eq_true_eq, List.isEmpty_iff] at h3
      exact .inr (.inr (.inl ⟨e5, h3.1, h3.2⟩))
    · rw [if_neg e5] at h3
      by_cases e2 : f.wire = 2
      · rw [if_pos e2] at h3
        simp only [Bool.and_eq_true, decide_eq_true_eq] at h3
        exact .inr (.inr (.inr ⟨e2, h3.1, h3.2⟩))
      · rw [if_neg e2] at h3; cases h3
theorem parse1_enc1 {f : Fd} (hm : may f = true) (hn : f.n < 18446744073709551616) (rest : List UInt8) : parse1 (enc1 f ++ rest) = .ok (f, rest) := by
  obtain ⟨h1, h2, hc⟩ := may_is hm
  obtain ⟨num, wire, n, s⟩ := f
  simp only at h1 h2 hc hn
  have hw : wire ≤ 5 := by omega
  have hk : key ⟨num, wire, n, s⟩ = 8 * num.toNat + wire := rfl
  have hr := rd_vnum (key ⟨num, wire, n, s⟩) (body ⟨num, wire, n, s⟩ ++ rest) (by rw [hk]; omega)
  unfold parse1
  rw [enc1, List.append_assoc, hr]
  simp only [List.drop_left]
  have e8 : key ⟨num, wire, n, s⟩ / 8 = num.toNat := by rw [hk]; omega
  have m8 : key ⟨num, wire, n, s⟩ % 8 = wire := by rw [hk]; omega
  rw [e8, m8, if_neg (by omega)]
  have en : ((num.toNat : Nat) : Int) = num := by omega
  rw [en]
  rcases hc with ⟨rfl, rfl⟩ | ⟨rfl, rfl⟩ | ⟨rfl, rfl, h4⟩ | ⟨rfl, rfl, hl⟩
  · rw [if_pos rfl]
    have hb : body ⟨num, 0, n, []⟩ = vnum n := rfl
    rw [hb, rd_vnum n rest hn]
    simp only [List.drop_left]
  · rw [if_neg (by decide), if_pos rfl]
    have hb : body ⟨num, 1, n, []⟩ = le 8 n := rfl
    have hl := le_len 8 n
    rw [hb, if_neg (by rw [List.length_append, hl]; omega), List.take_left' hl, List.drop_left' hl, unle_le 8 n (by simpa using hn)]
  · rw [if_neg (by decide), if_neg (by decide), if_pos rfl]
    have hb : body ⟨num, 5, n, []⟩ = le 4 n := rfl
    have hl := le_len 4 n
    rw [hb, if_neg (by rw [List.length_append, hl]; omega), List.take_left' hl, List.drop_left' hl, unle_le 4 n (by simpa using h4)]
  · rw [if_neg (by decide), if_neg (by decide), if_neg (by decide), if_pos rfl]
    have hb : body ⟨num, 2, 0, s⟩ = vnum s.length ++ s := rfl
    rw [hb, List.append_assoc, rd_vnum s.length (s ++ rest) (by omega)]
    simp only [List.drop_left]
    rw [if_neg (by rw [List.length_append]; omega), List.take_left]
theorem enc1_two (f : Fd) (hm : may f = true) : 2 ≤ (enc1 f).length := by
  obtain ⟨h1, h2, hc⟩ := may_is hm
  obtain ⟨num, wire, n, s⟩ := f
  have h := vnum_pos (key ⟨num, wire, n, s⟩)
  rw [enc1, List.length_append]
  simp only at hc
  rcases hc with ⟨rfl, rfl⟩ | ⟨rfl, rfl⟩ | ⟨rfl, rfl, h4⟩ | ⟨rfl, rfl, hl⟩
  · have hb : body ⟨num, 0, n, []⟩ = vnum n := rfl
    have := vnum_pos n
    rw [hb]; omega
  · have hb : body ⟨num, 1, n, []⟩ = le 8 n := rfl
    rw [hb, le_len]; omega
  · have hb : body ⟨num, 5, n, []⟩ = le 4 n := rfl
    rw [hb, le_len]; omega
  · have hb : body ⟨num, 2, 0, s⟩ = vnum s.length ++ s := rfl
    have := vnum_pos s.length
    rw [hb, List.length_append]; omega
theorem parse_enc : ∀ (l : List Fd), l.all may = true → (∀ f ∈ l, f.n < 18446744073709551616) → parse (enc l) = .ok l := by
  intro l
  induction l with
  | nil => intro _ _; rw [enc_nil, parse_nil]
  | cons f l ih =>
    intro hm hn
    rw [List.all_cons, Bool.and_eq_true] at hm
    have h1 := parse1_enc1 hm.1 (hn f (by simp)) (enc l)
    rw [enc_cons]
    have h0 : enc1 f ++ enc l ≠ [] := by
      intro e
      have := enc1_two f hm.1
      have e2 := congrArg List.length e
      rw [List.length_append] at e2
      simp only [List.length_nil] at e2
      omega
    rw [parse_ok h0 h1, ih hm.2 (fun g hg => hn g (by simp [hg]))]
theorem read_enc {l : List Fd} (hm : l.all may = true) (hn : ∀ f ∈ l, f.n < 18446744073709551616) (h1 : (enc l).length ≤ 65536) (h2 : l.length ≤ 4096) : read (enc l) = .ok l := by
  rw [read, if_neg (by omega), parse_enc l hm hn]
  simp only
  rw [if_neg (by omega)]
end Go.Proofs.YtnnnnlcpmocnfaaDoor.M

/- MESSAGES OF VALUES: what is written is read as it was. -/
namespace Go.Proofs.YtnnnnlcpmocnfaaDoor
open Go.RowKit
set_option linter.unusedVariables false
set_option linter.unusedSimpArgs false
attribute [local go_sem] run_store_float

/-- what is written of fields is read as them -/
theorem rd_of_wr {fs : List M.Fd} {t : List UInt8} (hn : ∀ f ∈ fs, f.n < 18446744073709551616) (h : wrE fs = .ok t) : M.read t = .ok fs := by
  rcases wrE_cases fs with ⟨e, _, _, h2⟩ | ⟨_, h2, h3, h4, h5⟩
  · rw [h2] at h; cases h
  · rw [h2] at h; injection h with h; subst h; exact M.read_enc h3 hn h5 h4
theorem told_one {f : M.Fd} {k : Int} (h : kindOf f = k) (h0 : ¬ k = 0) : toldOf [f] = (k, f) := by
  have := toldOf_snoc [] f
  rw [h, if_neg h0] at this
  exact this
/-- all that is nested in it fits -/
inductive FitD : V → Prop where
  | mk {x : V} (f : FitV x) (l : ∀ y ∈ x.l, FitD y) (p : ∀ e ∈ x.p, FitD e.2) : FitD x
theorem Rep.fitD {S : Nat → Prop} {w : World} {q1 q2 : Value} {x : V} (h : Rep S w q1 q2 x) : FitD x := by
  induction h with
  | mk g1 o1 g2 o2 c1 d1 c2 d2 fit s1 s2 a1 r1 a2 k2 r2 ih1 ih2 =>
    refine .mk fit (fun y hy => ?_) (fun e he => ?_)
    · obtain ⟨i, hi⟩ := List.getElem?_of_mem hy; exact ih1 i y hi
    · obtain ⟨i, hi⟩ := List.getElem?_of_mem he; exact ih2 i e hi
theorem rmsg_body (n : Nat) (t : List UInt8) : ∃ g, rmsg n t = rbody n g t ∧ ∀ m, n = m + 1 → g = rmsg m := by
  cases n with
  | zero => exact ⟨_, rfl, fun m h => by omega⟩
  | succ n => exact ⟨_, rfl, fun m h => by obtain rfl : n = m := by omega
                                           rfl⟩
theorem BA_self (s : ByteArray) : BA s.data.toList = s := by cases s; simp [BA]
theorem empty_of {s : ByteArray} (h : s.toList.isEmpty = true) : s = ⟨#[]⟩ := by
  have h2 : s.toList = [] := List.isEmpty_iff.1 h
  rw [Go.ByteArray.toList_eq] at h2
  rw [← BA_self s, h2]
theorem wrap_back (n : Int) (h0 : -9223372036854775808 ≤ n) (h1 : n ≤ 9223372036854775807) : IntKind.i64.wrap (((IntKind.u64.wrap n).toNat : Nat) : Int) = n := by
  have hu : IntKind.u64.wrap n = n % 18446744073709551616 := by simp [IntKind.wrap, IntKind.bits, IntKind.signed]
  rw [hu, Int.toNat_of_nonneg (Int.emod_nonneg _ (by decide))]
  simp [IntKind.wrap, IntKind.bits, IntKind.signed]
  split <;> omega
theorem wrapu_lt (n : Int) : (IntKind.u64.wrap n).toNat < 18446744073709551616 := by
  have hu : IntKind.u64.wrap n = n % 18446744073709551616 := by simp [IntKind.wrap, IntKind.bits, IntKind.signed]
  rw [hu]
  have h0 := Int.emod_nonneg n (show (18446744073709551616 : Int) ≠ 0 by decide)
  have h1 := Int.emod_lt_of_pos n (show (0 : Int) < 18446744073709551616 by decide)
  omega
/-- a right value is nothing but what its kind has -/
structure Bare (k : Int) (s : ByteArray) (b : Bool) (n : Int) (f : Nat) (l : List V) (p : List (ByteArray × V)) : Prop where
  k8 : k < 8
  s : ¬ k = 1 → ¬ k = 7 → s = ⟨#[]⟩
  b : ¬ k = 2 → b = false
  n : ¬ k = 3 → n = 0
  f : ¬ k = 4 → f = 0
  l : ¬ k = 5 → l = []
  p : ¬ k = 6 → p = []
theorem bare_is {k : Int} {s : ByteArray} {b : Bool} {n : Int} {f : Nat} {l : List V} {p : List (ByteArray × V)} (h : bareB (.mk k s b n f l p) = true) : Bare k s b n f l p := by
  unfold bareB at h
  simp only [Bool.and_eq_true, Bool.or_eq_true, decide_eq_true_eq, beq_iff_eq, Bool.not_eq_true'] at h
  obtain ⟨⟨⟨⟨⟨⟨h1, h2⟩, h3⟩, h4⟩, h5⟩, h6⟩, h7⟩ := h
  refine ⟨h1, fun a c => ?_, fun a => ?_, fun a => ?_, fun a => ?_, fun a => ?_, fun a => ?_⟩
  · rcases h2 with (h | h) | h
    · exact absurd h a
    · exact absurd h c
    · exact empty_of h
  · rcases h3 with h | h
    · exact absurd h a
    · exact h
  · rcases h4 with h | h
    · exact absurd h a
    · exact h
  · rcases h5 with h | h
    · exact absurd h a
    · exact h
  · rcases h6 with h | h
    · exact absurd h a
    · exact List.isEmpty_iff.1 h
  · rcases h7 with h | h
    · exact absurd h a
    · exact List.isEmpty_iff.1 h
abbrev V0 : V := .mk 0 ⟨#[]⟩ false 0 0 [] []
theorem rmsg_nil (n : Nat) : rmsg n [] = .ok V0 := by
  obtain ⟨g, h, _⟩ := rmsg_body n []
  rw [h]
  unfold rbody
  rw [show M.read [] = .ok [] by unfold M.read; rw [M.parse_nil]; rfl]
  rfl
theorem list_back (g : List UInt8 → Except Int V) : ∀ (l : List V) (acc : List V) (fs : List M.Fd), joined (l.map wmsg) = .ok fs → (∀ y ∈ l, ∀ t, wmsg y = .ok t → g t = .ok y) →
    fs.foldl (fun acc f => match acc with | .error c => .error c | .ok l => (match g f.s with | .error c => .error c | .ok x => .ok (l ++ [x]))) (.ok acc) = (.ok (acc ++ l) : Except Int (List V)) := by
  intro l
  induction l with
  | nil => intro acc fs h _; injection h with h; subst h; simp
  | cons y l ih =>
    intro acc fs h hall
    rw [List.map_cons] at h
    cases hy : wmsg y with
    | error e => rw [hy] at h; cases h
    | ok t =>
      rw [hy] at h
      have h' : (match joined (l.map wmsg) with | .error e => Except.error e | .ok fs => .ok (bf 1 t :: fs)) = .ok fs := h
      cases hj : joined (l.map wmsg) with
      | error e => rw [hj] at h'; cases h'
      | ok gs =>
        rw [hj] at h'
        injection h' with h'
        subst h'
        rw [List.foldl_cons]
        dsimp only
        rw [hall y (by simp) t hy]
        dsimp only
        rw [ih (acc ++ [y]) gs hj fun z hz => hall z (by simp [hz])]
        simp
theorem putIn_new {l : List (ByteArray × V)} {key : ByteArray} {v : V} (h : ∀ e ∈ l, e.1 ≠ key) : putIn l key v = l ++ [(key, v)] := by
  induction l with
  | nil => rfl
  | cons a l ih => rw [putIn, if_neg (h a (by simp)), ih fun e he => h e (by simp [he])]; rfl
theorem pairs_back (g : List UInt8 → Except Int (ByteArray × V)) : ∀ (l : List (ByteArray × V)) (acc : List (ByteArray × V)) (fs : List M.Fd), joined (l.map fun e => wpair e.1 e.2) = .ok fs → (∀ y ∈ l, ∀ t, wpair y.1 y.2 = .ok t → g t = .ok y) → ((acc ++ l).map (·.1)).Nodup →
    fs.foldl (fun acc f => match acc with | .error c => .error c | .ok l => (match g f.s with | .error c => .error c | .ok x => .ok (putIn l x.1 x.2))) (.ok acc) = (.ok (acc ++ l) : Except Int (List (ByteArray × V))) := by
  intro l
  induction l with
  | nil => intro acc fs h _ _; injection h with h; subst h; simp
  | cons y l ih =>
    intro acc fs h hall hnd
    rw [List.map_cons] at h
    cases hy : wpair y.1 y.2 with
    | error e => rw [hy] at h; cases h
    | ok t =>
      rw [hy] at h
      have h' : (match joined (l.map fun e => wpair e.1 e.2) with | .error e => Except.error e | .ok fs => .ok (bf 1 t :: fs)) = .ok fs := h
      cases hj : joined (l.map fun e => wpair e.1 e.2) with
      | error e => rw [hj] at h'; cases h'
      | ok gs =>
        rw [hj] at h'
        injection h' with h'
        subst h'
        rw [List.foldl_cons]
        dsimp only
        rw [hall y (by simp) t hy]
        dsimp only
        have hnew : ∀ e ∈ acc, e.1 ≠ y.1 := fun e he heq => by
          rw [List.map_append, List.nodup_append] at hnd
          exact hnd.2.2 e.1 (List.mem_map.2 ⟨e, he, rfl⟩) y.1 (by simp) heq
        rw [putIn_new hnew, ih (acc ++ [(y.1, y.2)]) gs hj (fun z hz => hall z (by simp [hz])) (by simpa using hnd)]
        simp
theorem bf_n (n : Int) (t : List UInt8) : (bf n t).n < 18446744073709551616 := by show (0 : Nat) < _; decide
theorem keyf_key (key : ByteArray) (u : List M.Fd) (hu : ∀ f ∈ u, pick 1 2 f = false) : BA (strOf (lastOf 1 2 (keyf key ++ u))) = key := by
  have hz : allOf 1 2 u = [] := by unfold allOf; exact List.filter_eq_nil_iff.2 fun f hf => by rw [hu f hf]; simp
  have ha : allOf 1 2 (keyf key ++ u) = allOf 1 2 (keyf key) := by
    have : allOf 1 2 (keyf key ++ u) = allOf 1 2 (keyf key) ++ allOf 1 2 u := by unfold allOf; exact List.filter_append ..
    rw [this, hz, List.append_nil]
  unfold lastOf
  rw [ha]
  cases he : key.toList.isEmpty with
  | true =>
    have hk : keyf key = [] := by unfold keyf; rw [if_pos he]
    rw [hk, empty_of he]; rfl
  | false =>
    have hk : keyf key = [bf 1 key.data.toList] := by unfold keyf; rw [if_neg (by rw [he]; decide)]
    rw [hk, show allOf 1 2 [bf 1 key.data.toList] = [bf 1 key.data.toList] from rfl]
    exact BA_self key
theorem keyf_n (key : ByteArray) : ∀ f ∈ keyf key, f.n < 18446744073709551616 := by
  intro f hf
  unfold keyf at hf
  split at hf
  · cases hf
  · rw [List.mem_singleton.1 hf]; exact bf_n _ _
theorem keyf_pick (key : ByteArray) : allOf 2 2 (keyf key) = [] := by
  unfold keyf
  split <;> rfl
theorem pair_back (g : List UInt8 → Except Int V) (key : ByteArray) (x : V) (hk : keyErr key = 0) (hg : ∀ t, wmsg x = .ok t → g t = .ok x) (t : List UInt8) (h : wpair key x = .ok t) : rpairG g t = .ok (key, x) := by
  unfold wpair wpairE at h
  by_cases k0 : x.k = 0
  · rw [if_pos k0] at h
    have hr := rd_of_wr (keyf_n key) h
    have hw : wmsg x = .ok [] := by
      rw [wmsg_eq, if_neg (by omega), if_neg (by omega), if_neg (by omega), if_neg (by omega), if_neg (by omega), if_neg (by omega), if_neg (by omega)]
    have h1 := keyf_key key [] (fun f hf => by cases hf)
    rw [List.append_nil] at h1
    have h2 : strOf (lastOf 2 2 (keyf key)) = [] := by unfold lastOf; rw [keyf_pick]; rfl
    unfold rpairG
    rw [hr]
    dsimp only
    rw [h1, if_pos hk, h2, hg [] hw]
  · rw [if_neg k0] at h
    cases hw : wmsg x with
    | error e => rw [hw] at h; cases h
    | ok u =>
      rw [hw] at h
      dsimp only at h
      have hr := rd_of_wr (fs := keyf key ++ [bf 2 u]) (fun f hf => by
        rcases List.mem_append.1 hf with hf | hf
        · exact keyf_n key f hf
        · rw [List.mem_singleton.1 hf]; exact bf_n _ _) h
      have h1 := keyf_key key [bf 2 u] (fun f hf => by rw [List.mem_singleton.1 hf]; rfl)
      have h2 : strOf (lastOf 2 2 (keyf key ++ [bf 2 u])) = u := by
        unfold lastOf
        have : allOf 2 2 (keyf key ++ [bf 2 u]) = allOf 2 2 (keyf key) ++ allOf 2 2 [bf 2 u] := by unfold allOf; exact List.filter_append ..
        rw [this, keyf_pick]
        rfl
      unfold rpairG
      rw [hr]
      dsimp only
      rw [h1, if_pos hk, h2, hg u hw]
theorem key_of {s : ByteArray} (h1 : s.size ≤ 4096) (h2 : utf s = true) : keyErr s = 0 := by unfold keyErr; rw [if_pos h1, if_pos h2]
theorem around_ok {m : Int} {r : Res} {t : List UInt8} (h : around m r = .ok t) : ∃ u, r = .ok u ∧ wrE [bf m u] = .ok t := by
  cases r with
  | error e => cases h
  | ok u => exact ⟨u, rfl, h⟩
theorem wjoin_ok {rs : List Res} {t : List UInt8} (h : wjoin rs = .ok t) : ∃ fs, joined rs = .ok fs ∧ wrE fs = .ok t := by
  unfold wjoin at h
  cases hj : joined rs with
  | error e => rw [hj] at h; cases h
  | ok fs => rw [hj] at h; exact ⟨fs, rfl, h⟩
theorem joined_bf : ∀ (rs : List Res) (fs : List M.Fd), joined rs = .ok fs → ∀ f ∈ fs, ∃ t, f = bf 1 t := by
  intro rs
  induction rs with
  | nil => intro fs h; injection h with h; subst h; intro f hf; cases hf
  | cons a rs ih =>
    intro fs h
    cases a with
    | error e => cases h
    | ok t =>
      have h' : (match joined rs with | .error e => Except.error e | .ok fs => .ok (bf 1 t :: fs)) = .ok fs := h
      cases hj : joined rs with
      | error e => rw [hj] at h'; cases h'
      | ok gs =>
        rw [hj] at h'; injection h' with h'; subst h'
        intro f hf
        rcases List.mem_cons.1 hf with rfl | hf
        · exact ⟨t, rfl⟩
        · exact ih gs hj f hf
theorem parts_back {rs : List Res} {fs : List M.Fd} {u : List UInt8} (hj : joined rs = .ok fs) (hw : wrE fs = .ok u) (hl : rs.length ≤ 256) (n : Nat) : partsR u (n + 1) = .ok fs := by
  have hb := joined_bf rs fs hj
  have hr := rd_of_wr (fun f hf => by obtain ⟨t, rfl⟩ := hb f hf; exact bf_n _ _) hw
  have ha : allOf 1 2 fs = fs := by unfold allOf; exact List.filter_eq_self.2 fun f hf => by obtain ⟨t, rfl⟩ := hb f hf; rfl
  unfold partsR
  rw [hr]
  dsimp only
  rw [ha, if_neg (by rw [joined_len rs fs hj]; omega), if_neg (by omega)]
theorem wmsg_mk (k : Int) (s : ByteArray) (b : Bool) (n : Int) (f : Nat) (l : List V) (p : List (ByteArray × V)) : wmsg (.mk k s b n f l p) = if k = 1 then wrE [bf 1 s.data.toList] else if k = 2 then wrE [⟨2, 0, if b then 1 else 0, []⟩] else if k = 3 then wrE [⟨3, 0, (IntKind.u64.wrap n).toNat, []⟩] else if k = 4 then wrE [⟨4, 1, f, []⟩]
    else if k = 5 then around 5 (wjoin (l.map wmsg)) else if k = 6 then around 6 (wjoin (p.map fun e => wpair e.1 e.2)) else if k = 7 then wrE [bf 7 s.data.toList] else .ok [] := wmsg_eq _
/-- what is written of a right value is read as it -/
theorem back_val : ∀ (m : Nat) (x : V), SizeOf.sizeOf x ≤ m → FitD x → ∀ (n : Nat) (d : Int), d = 8 - (n : Int) → chk x d = 0 → ∀ t, wmsg x = .ok t → rmsg n t = .ok x := by
  intro m
  induction m with
  | zero => intro x hx; cases x; simp only [V.mk.sizeOf_spec] at hx; omega
  | succ m ih =>
    intro x hx hfit n d hd hc t h
    have R := right_is hc
    have hsl := fun y (hy : y ∈ x.l) => V.size_l hy
    have hsp := fun e (he : e ∈ x.p) => V.size_p he
    obtain ⟨hf, hfl, hfp⟩ := hfit
    obtain ⟨k, s, b, z, f, l, p⟩ := x
    rw [wmsg_mk] at h
    have B := bare_is R.bare
    have k0 := hf.k0
    simp only [V.k, V.l, V.p] at hsl hsp hfl hfp k0
    obtain ⟨g, hg, hgm⟩ := rmsg_body n t
    rw [hg]
    unfold rbody
    by_cases k1 : k = 1
    · subst k1
      rw [if_pos (by decide)] at h
      rw [rd_of_wr (fun f hf => by rw [List.mem_singleton.1 hf]; exact bf_n _ _) h]
      dsimp only
      rw [told_one (k := 1) rfl (by decide)]
      dsimp only
      rw [if_pos (by decide), BA_self, if_pos (show keyErr s = 0 from key_of R.s (R.u rfl))]
      rw [B.b (by decide), B.n (by decide), B.f (by decide), B.l (by decide), B.p (by decide)]
    rw [if_neg k1] at h
    by_cases k2 : k = 2
    · subst k2
      rw [if_pos (by decide)] at h
      rw [rd_of_wr (fun f hf => by rw [List.mem_singleton.1 hf]; cases b <;> decide) h]
      dsimp only
      rw [told_one (k := 2) rfl (by decide)]
      dsimp only
      rw [if_neg (by decide), if_pos (by decide)]
      rw [B.s (by decide) (by decide), B.n (by decide), B.f (by decide), B.l (by decide), B.p (by decide)]
      cases b <;> rfl
    rw [if_neg k2] at h
    by_cases k3 : k = 3
    · subst k3
      rw [if_pos (by decide)] at h
      rw [rd_of_wr (fun f hf => by rw [List.mem_singleton.1 hf]; exact wrapu_lt z) h]
      dsimp only
      rw [told_one (k := 3) rfl (by decide)]
      dsimp only
      rw [if_neg (by decide), if_neg (by decide), if_pos (by decide), wrap_back z hf.n0 hf.n1]
      rw [B.s (by decide) (by decide), B.b (by decide), B.f (by decide), B.l (by decide), B.p (by decide)]
    rw [if_neg k3] at h
    by_cases k4 : k = 4
    · subst k4
      rw [if_pos (by decide)] at h
      rw [rd_of_wr (fun f' hf' => by rw [List.mem_singleton.1 hf']; exact hf.f1) h]
      dsimp only
      rw [told_one (k := 4) rfl (by decide)]
      dsimp only
      rw [if_neg (by decide), if_neg (by decide), if_neg (by decide), if_pos (by decide)]
      rw [B.s (by decide) (by decide), B.b (by decide), B.n (by decide), B.l (by decide), B.p (by decide)]
    rw [if_neg k4] at h
    by_cases k5 : k = 5
    · subst k5
      rw [if_pos (by decide)] at h
      obtain ⟨u, hu, h⟩ := around_ok h
      obtain ⟨fs, hj, hu⟩ := wjoin_ok hu
      rw [rd_of_wr (fun f hf => by rw [List.mem_singleton.1 hf]; exact bf_n _ _) h]
      dsimp only
      rw [told_one (k := 5) rfl (by decide)]
      dsimp only
      rw [if_neg (by decide), if_neg (by decide), if_neg (by decide), if_neg (by decide), if_pos (by decide)]
      have hd8 := R.dd (.inl rfl)
      cases n with
      | zero => omega
      | succ n =>
        rw [hgm n rfl, parts_back hj hu (by rw [List.length_map]; exact R.l) n]
        dsimp only
        have hb : rlistG (rmsg n) fs = .ok ([] ++ l) := list_back (rmsg n) l [] fs hj fun y hy t ht => ih y (by have := hsl y hy; omega) (hfl y hy) n (d + 1) (by omega) (chkL_all R.rl y hy) t ht
        rw [hb]
        dsimp only
        rw [List.nil_append, B.s (by decide) (by decide), B.b (by decide), B.n (by decide), B.f (by decide), B.p (by decide)]
    rw [if_neg k5] at h
    by_cases k6 : k = 6
    · subst k6
      rw [if_pos (by decide)] at h
      obtain ⟨u, hu, h⟩ := around_ok h
      obtain ⟨fs, hj, hu⟩ := wjoin_ok hu
      rw [rd_of_wr (fun f hf => by rw [List.mem_singleton.1 hf]; exact bf_n _ _) h]
      dsimp only
      rw [told_one (k := 6) rfl (by decide)]
      dsimp only
      rw [if_neg (by decide), if_neg (by decide), if_neg (by decide), if_neg (by decide), if_neg (by decide), if_pos (by decide)]
      have hd8 := R.dd (.inr rfl)
      cases n with
      | zero => omega
      | succ n =>
        rw [hgm n rfl, parts_back hj hu (by rw [List.length_map]; exact R.p) n]
        dsimp only
        have hnd : ((([] : List (ByteArray × V)) ++ p).map (·.1)).Nodup := Decidable.byContradiction fun hn => by
          have := onceErr_no (l := p) hn
          have h0 : onceErr p = 0 := R.once
          omega
        have hb : rpairsG (rmsg n) fs = .ok ([] ++ p) := pairs_back (rpairG (rmsg n)) p [] fs hj (fun e he t ht => by
          have hce := chkP_all R.rp e he
          exact pair_back (rmsg n) e.1 e.2 hce.1 (fun t ht => ih e.2 (by have := hsp e he; omega) (hfp e he) n (d + 1) (by omega) hce.2 t ht) t ht) hnd
        rw [hb]
        dsimp only
        rw [List.nil_append, B.s (by decide) (by decide), B.b (by decide), B.n (by decide), B.f (by decide), B.l (by decide)]
    rw [if_neg k6] at h
    by_cases k7 : k = 7
    · subst k7
      rw [if_pos (by decide)] at h
      rw [rd_of_wr (fun f hf => by rw [List.mem_singleton.1 hf]; exact bf_n _ _) h]
      dsimp only
      rw [told_one (k := 7) rfl (by decide)]
      dsimp only
      have hs4 : s.data.toList.length ≤ 4096 := R.s
      rw [if_neg (by decide), if_neg (by decide), if_neg (by decide), if_neg (by decide), if_neg (by decide), if_neg (by decide), if_pos (by decide), if_pos hs4, BA_self]
      rw [B.b (by decide), B.n (by decide), B.f (by decide), B.l (by decide), B.p (by decide)]
    rw [if_neg k7] at h
    injection h with h
    subst h
    have hk : k = 0 := by have := B.k8; omega
    subst hk
    have h0 := rmsg_nil n
    rw [hg] at h0
    unfold rbody at h0
    rw [h0, B.s (by decide) (by decide), B.b (by decide), B.n (by decide), B.f (by decide), B.l (by decide), B.p (by decide)]
/-- Read of what Write wrote -/
theorem back_write {x : V} {t : List UInt8} (hf : FitD x) (h : writeR x = .ok t) : rmsg 8 t = .ok x := by
  unfold writeR at h
  by_cases hc : chk x 0 = 0
  · rw [if_pos hc] at h
    cases hw : wmsg x with
    | error e => rw [hw] at h; cases h
    | ok u => rw [hw] at h; injection h with h; subst h; exact back_val _ x (Nat.le_refl _) hf 8 0 (by decide) hc u hw
  · rw [if_neg hc] at h; cases h
/-- ReadPair of what WritePair wrote -/
theorem back_pair {key : ByteArray} {x : V} {t : List UInt8} (hf : FitD x) (h : writePR key x = .ok t) : rpairG (rmsg 8) t = .ok (key, x) := by
  unfold writePR at h
  by_cases hc : pairErr key x 0 = 0
  · rw [if_pos hc] at h
    cases hw : wpair key x with
    | error e => rw [hw] at h; cases h
    | ok u =>
      rw [hw] at h; injection h with h; subst h
      unfold pairErr at hc
      by_cases hk : keyErr key = 0
      · rw [if_pos hk] at hc
        exact pair_back _ key x hk (fun t ht => back_val _ x (Nat.le_refl _) hf 8 0 (by decide) hc t ht) u hw
      · rw [if_neg hk] at hc; exact absurd hc hk
  · rw [if_neg hc] at h; cases h
end Go.Proofs.YtnnnnlcpmocnfaaDoor

/- MESSAGES OF VALUES: of what is right, what Write answers. -/
namespace Go.Proofs.YtnnnnlcpmocnfaaDoor
open Go.RowKit
set_option linter.unusedVariables false
set_option linter.unusedSimpArgs false
attribute [local go_sem] run_store_float

/-- a value that is right, with fewer lists and maps around it -/
theorem chk_fewer : ∀ (m : Nat) (x : V), SizeOf.sizeOf x ≤ m → ∀ (d d' : Int), d' ≤ d → chk x d = 0 → chk x d' = 0 := by
  intro m
  induction m with
  | zero => intro x hx; cases x; simp only [V.mk.sizeOf_spec] at hx; omega
  | succ m ih =>
    intro x hx d d' hd hc
    have R := right_is hc
    rw [chk_eq, if_neg (by rw [R.bare]; decide), if_neg (by have := R.s; omega), if_neg (fun h => by have := R.u h.1; rw [h.2] at this; cases this), if_neg (by have := R.l; omega), if_neg (by have := R.p; omega), if_neg (fun h => by have := R.dd h.1; omega)]
    have h1 : chkL x.l (d' + 1) = 0 := chkL_ok fun j y hj => by
      have hy := List.mem_of_getElem? hj
      exact ih y (by have := V.size_l hy; omega) (d + 1) (d' + 1) (by omega) (chkL_all R.rl y hy)
    have h2 : chkP x.p (d' + 1) = 0 := chkP_ok fun j e hj => by
      have he := List.mem_of_getElem? hj
      have h3 := chkP_all R.rp e he
      unfold pairErr
      rw [if_pos h3.1]
      exact ih e.2 (by have := V.size_p he; omega) (d + 1) (d' + 1) (by omega) h3.2
    rw [if_pos h1, if_pos h2]
    exact R.once
theorem chkL_first {l : List V} {d c : Int} (h : ∀ y ∈ l, chk y d = 0 ∨ chk y d = c) : chkL l d = 0 ∨ chkL l d = c := by
  induction l with
  | nil => rw [chkL]; exact .inl rfl
  | cons y l ih =>
    rw [chkL]
    by_cases hy : chk y d = 0
    · rw [if_pos hy]; exact ih fun z hz => h z (by simp [hz])
    · rw [if_neg hy]; rcases h y (by simp) with h | h
      · exact absurd h hy
      · exact .inr h
theorem chkP_first {l : List (ByteArray × V)} {d c : Int} (hk : ∀ e ∈ l, keyErr e.1 = 0) (h : ∀ e ∈ l, chk e.2 d = 0 ∨ chk e.2 d = c) : chkP l d = 0 ∨ chkP l d = c := by
  induction l with
  | nil => rw [chkP]; exact .inl rfl
  | cons y l ih =>
    obtain ⟨key, y⟩ := y
    rw [chkP, if_pos (hk (key, y) (by simp))]
    by_cases hy : chk y d = 0
    · rw [if_pos hy]; exact ih (fun z hz => hk z (by simp [hz])) fun z hz => h z (by simp [hz])
    · rw [if_neg hy]; rcases h (key, y) (by simp) with h | h
      · exact absurd h hy
      · exact .inr h
/-- a value that is right: with more around it, it is right or too deep -/
theorem chk_deep : ∀ (m : Nat) (x : V), SizeOf.sizeOf x ≤ m → ∀ (d d' : Int), chk x d = 0 → chk x d' = 0 ∨ chk x d' = 11 := by
  intro m
  induction m with
  | zero => intro x hx; cases x; simp only [V.mk.sizeOf_spec] at hx; omega
  | succ m ih =>
    intro x hx d d' hc
    have R := right_is hc
    rw [chk_eq, if_neg (by rw [R.bare]; decide), if_neg (by have := R.s; omega), if_neg (fun h => by have := R.u h.1; rw [h.2] at this; cases this), if_neg (by have := R.l; omega), if_neg (by have := R.p; omega)]
    by_cases h6 : (x.k = 5 ∨ x.k = 6) ∧ ¬ d' < 8
    · rw [if_pos h6]; exact .inr rfl
    rw [if_neg h6]
    have h1 := chkL_first (c := 11) (d := d' + 1) fun y hy => ih y (by have := V.size_l hy; omega) (d + 1) (d' + 1) (chkL_all R.rl y hy)
    have h2 := chkP_first (c := 11) (d := d' + 1) (fun e he => (chkP_all R.rp e he).1) fun e he => ih e.2 (by have := V.size_p he; omega) (d + 1) (d' + 1) (chkP_all R.rp e he).2
    by_cases h7 : chkL x.l (d' + 1) = 0
    · rw [if_pos h7]
      by_cases h8 : chkP x.p (d' + 1) = 0
      · rw [if_pos h8]; exact .inl R.once
      · rw [if_neg h8]; rcases h2 with h | h
        · exact absurd h h8
        · exact .inr h
    · rw [if_neg h7]; rcases h1 with h | h
      · exact absurd h h7
      · exact .inr h
theorem wr_four {fs : List M.Fd} {c : Nat} (hm : ∀ f ∈ fs, M.may f = true) (hl : fs.length ≤ 4096) (h : wrE fs = .error c) : c = 4 := by
  have ha : fs.all M.may = true := List.all_eq_true.2 hm
  have hw : M.wr fs = (4, []) ∨ M.wr fs = (0, M.enc fs) := by
    unfold M.wr
    rw [if_neg (show ¬ 4096 < fs.length by omega), if_neg (show ¬ fs.all M.may = false by rw [ha]; decide)]
    by_cases h3 : 65536 < (M.enc fs).length
    · rw [if_pos h3]; exact .inl rfl
    · rw [if_neg h3]; exact .inr rfl
  unfold wrE at h
  rcases hw with hw | hw
  · rw [hw] at h; injection h with h; exact h.symm
  · rw [hw] at h; cases h
theorem wr_short {fs : List M.Fd} {t : List UInt8} (h : wrE fs = .ok t) : t.length ≤ 65536 := by
  rcases wrE_cases fs with ⟨e, _, _, h2⟩ | ⟨_, h2, _, _, h5⟩
  · rw [h2] at h; cases h
  · rw [h2] at h; injection h with h; subst h; exact h5
theorem keyf_may {key : ByteArray} (h : key.size ≤ 65536) : ∀ f ∈ keyf key, M.may f = true := by
  intro f hf
  unfold keyf at hf
  split at hf
  · cases hf
  · rw [List.mem_singleton.1 hf]; exact may_bf 1 _ (by decide) h
theorem keyf_len (key : ByteArray) : (keyf key).length ≤ 1 := by unfold keyf; split <;> simp
theorem joined_four : ∀ (rs : List Res), (∀ c, Except.error c ∈ rs → c = 4) → ∀ c, joined rs = .error c → c = 4 := by
  intro rs
  induction rs with
  | nil => intro _ c h; cases h
  | cons a rs ih =>
    intro hall c h
    cases a with
    | error e => injection h with h; subst h; exact hall e (by simp)
    | ok t =>
      have h' : (match joined rs with | .error e => Except.error e | .ok fs => .ok (bf 1 t :: fs)) = .error c := h
      cases hj : joined rs with
      | error e => rw [hj] at h'; injection h' with h'; subst h'; exact ih (fun c hc => hall c (by simp [hc])) e hj
      | ok gs => rw [hj] at h'; cases h'
theorem joined_may : ∀ (rs : List Res) (fs : List M.Fd), (∀ t, Except.ok t ∈ rs → t.length ≤ 65536) → joined rs = .ok fs → ∀ f ∈ fs, M.may f = true := by
  intro rs
  induction rs with
  | nil => intro fs _ h; injection h with h; subst h; intro f hf; cases hf
  | cons a rs ih =>
    intro fs hall h
    cases a with
    | error e => cases h
    | ok t =>
      have h' : (match joined rs with | .error e => Except.error e | .ok fs => .ok (bf 1 t :: fs)) = .ok fs := h
      cases hj : joined rs with
      | error e => rw [hj] at h'; cases h'
      | ok gs =>
        rw [hj] at h'; injection h' with h'; subst h'
        intro f hf
        rcases List.mem_cons.1 hf with rfl | hf
        · exact may_bf 1 t (by decide) (hall t (by simp))
        · exact ih gs (fun t ht => hall t (by simp [ht])) hj f hf
theorem around_four {m : Int} (hm : 1 ≤ m ∧ m ≤ 1000) {rs : List Res} (h4 : ∀ c, Except.error c ∈ rs → c = 4) (hs : ∀ t, Except.ok t ∈ rs → t.length ≤ 65536) (hl : rs.length ≤ 4096) {c : Nat} (h : around m (wjoin rs) = .error c) : c = 4 := by
  unfold wjoin at h
  cases hj : joined rs with
  | error e => rw [hj] at h; injection h with h; subst h; exact joined_four rs h4 e hj
  | ok fs =>
    rw [hj] at h
    have h' : around m (wrE fs) = .error c := h
    cases hw : wrE fs with
    | error e =>
      rw [hw] at h'; injection h' with h'; subst h'
      exact wr_four (joined_may rs fs hs hj) (by rw [joined_len rs fs hj]; exact hl) hw
    | ok u =>
      rw [hw] at h'
      have h2 : wrE [bf m u] = .error c := h'
      exact wr_four (fun f hf => by rw [List.mem_singleton.1 hf]; exact may_bf m u hm (wr_short hw)) (by simp) h2
/-- a right value's message is too long, or there is one -/
theorem err_four : ∀ (m : Nat) (x : V), SizeOf.sizeOf x ≤ m → FitD x → ∀ d, chk x d = 0 → ∀ c, wmsg x = .error c → c = 4 := by
  intro m
  induction m with
  | zero => intro x hx; cases x; simp only [V.mk.sizeOf_spec] at hx; omega
  | succ m ih =>
    intro x hx hfit d hc c h
    have R := right_is hc
    obtain ⟨hf, hfl, hfp⟩ := hfit
    have hone : ∀ (k : Int) (t : List UInt8), 1 ≤ k ∧ k ≤ 1000 → t.length ≤ 4096 → wrE [bf k t] = .error c → c = 4 := fun k t hk ht h =>
      wr_four (fun f hf => by rw [List.mem_singleton.1 hf]; exact may_bf k t hk (by omega)) (by simp) h
    have hnum : ∀ (k : Int) (w n : Nat), 1 ≤ k ∧ k ≤ 1000 → (w = 0 ∨ w = 1) → n < 18446744073709551616 → wrE [⟨k, w, n, []⟩] = .error c → c = 4 := fun k w n hk hw hn h =>
      wr_four (fun f hf => by rw [List.mem_singleton.1 hf]; exact (enc1_num k w n hk hw hn).1) (by simp) h
    have hs4 : x.s.data.toList.length ≤ 4096 := R.s
    rw [wmsg_eq] at h
    by_cases k1 : x.k = 1
    · rw [if_pos k1] at h; exact hone 1 _ (by decide) hs4 h
    rw [if_neg k1] at h
    by_cases k2 : x.k = 2
    · rw [if_pos k2] at h; exact hnum 2 0 _ (by decide) (.inl rfl) (by split <;> decide) h
    rw [if_neg k2] at h
    by_cases k3 : x.k = 3
    · rw [if_pos k3] at h; exact hnum 3 0 _ (by decide) (.inl rfl) (wrapu_lt _) h
    rw [if_neg k3] at h
    by_cases k4 : x.k = 4
    · rw [if_pos k4] at h; exact hnum 4 1 _ (by decide) (.inr rfl) hf.f1 h
    rw [if_neg k4] at h
    by_cases k5 : x.k = 5
    · rw [if_pos k5] at h
      refine around_four (by decide) (fun e he => ?_) (fun t ht => ?_) (by rw [List.length_map]; have := R.l; omega) h
      · obtain ⟨y, hy, he⟩ := List.mem_map.1 he
        exact ih y (by have := V.size_l hy; omega) (hfl y hy) (d + 1) (chkL_all R.rl y hy) e he
      · obtain ⟨y, hy, ht⟩ := List.mem_map.1 ht
        exact wmsg_short ht
    rw [if_neg k5] at h
    by_cases k6 : x.k = 6
    · rw [if_pos k6] at h
      refine around_four (by decide) (fun e he => ?_) (fun t ht => ?_) (by rw [List.length_map]; have := R.p; omega) h
      · obtain ⟨y, hy, he⟩ := List.mem_map.1 he
        have hcp := chkP_all R.rp y hy
        have hky : y.1.size ≤ 65536 := by
          have := hcp.1
          unfold keyErr at this
          by_cases h4 : y.1.size ≤ 4096
          · omega
          · rw [if_neg h4] at this; cases this
        unfold wpair wpairE at he
        split at he
        · exact wr_four (keyf_may hky) (by have := keyf_len y.1; omega) he
        · cases hw : wmsg y.2 with
          | error e' => rw [hw] at he; injection he with he; subst he; exact ih y.2 (by have := V.size_p hy; omega) (hfp y hy) (d + 1) hcp.2 e' hw
          | ok u =>
            rw [hw] at he
            refine wr_four (fun f hf => ?_) (by rw [List.length_append]; have := keyf_len y.1; simp; omega) he
            rcases List.mem_append.1 hf with hf | hf
            · exact keyf_may hky f hf
            · rw [List.mem_singleton.1 hf]; exact may_bf 2 u (by decide) (wmsg_short hw)
      · obtain ⟨y, hy, ht⟩ := List.mem_map.1 ht
        exact wpair_short ht
    rw [if_neg k6] at h
    by_cases k7 : x.k = 7
    · rw [if_pos k7] at h; exact hone 7 _ (by decide) hs4 h
    rw [if_neg k7] at h
    cases h
theorem writeR_short {x : V} {t : List UInt8} (h : writeR x = .ok t) : t.length ≤ 65536 := by
  unfold writeR at h
  split at h
  · cases hw : wmsg x with
    | error e => rw [hw] at h; cases h
    | ok u => rw [hw] at h; injection h with h; subst h; exact wmsg_short hw
  · cases h
theorem writePR_short {key : ByteArray} {x : V} {t : List UInt8} (h : writePR key x = .ok t) : t.length ≤ 65536 := by
  unfold writePR at h
  split at h
  · cases hw : wpair key x with
    | error e => rw [hw] at h; cases h
    | ok u => rw [hw] at h; injection h with h; subst h; exact wpair_short hw
  · cases h
theorem writeR_zero {x : V} {c : Int} (h : writeR x = .error c) : ¬ c = 0 := by
  unfold writeR at h
  by_cases h0 : chk x 0 = 0
  · rw [if_pos h0] at h
    cases hw : wmsg x with
    | error e => rw [hw] at h; injection h with h; subst h; exact wmsg_err hw
    | ok u => rw [hw] at h; cases h
  · rw [if_neg h0] at h; injection h with h; subst h; exact h0
theorem writePR_zero {key : ByteArray} {x : V} {c : Int} (h : writePR key x = .error c) : ¬ c = 0 := by
  unfold writePR at h
  by_cases h0 : pairErr key x 0 = 0
  · rw [if_pos h0] at h
    cases hw : wpair key x with
    | error e => rw [hw] at h; injection h with h; subst h; exact wpair_err hw
    | ok u => rw [hw] at h; cases h
  · rw [if_neg h0] at h; injection h with h; subst h; exact h0
theorem writeR_right {x : V} {t : List UInt8} (h : writeR x = .ok t) : chk x 0 = 0 := by
  unfold writeR at h
  by_cases h0 : chk x 0 = 0
  · exact h0
  · rw [if_neg h0] at h; cases h
theorem wb_no {c : Int} {w w' : World} {e : Ending} (h : WroteBoth (.error c) w e w') : e = .returned (.tuple #[.string ⟨#[]⟩, .int .i64 c]) ∧ Below w.heap.size w w' := h
theorem wb_ok {t : List UInt8} {w w' : World} {e : Ending} (h : WroteBoth (.ok t) w e w') : e = .returned (.tuple #[.string ⟨t.toArray⟩, .int .i64 0]) ∧ Below w.heap.size w w' := h
/-- the list of one value -/
abbrev listOf (x : V) : V := .mk 5 ⟨#[]⟩ false 0 0 [x] []
theorem chk_list (x : V) : chk (listOf x) 0 = chk x 1 := by
  have hb : bareB (listOf x) = true := by unfold bareB; simp [V.k, V.s, V.b, V.n, V.f, V.l, V.p, Go.ByteArray.toList_eq]
  rw [chk_eq, if_neg (by rw [hb]; decide), if_neg (by show ¬ ¬ (0 : Nat) ≤ 4096; omega), if_neg (fun h => by have : (5 : Int) = 1 := h.1; omega), if_neg (by show ¬ ¬ (1 : Nat) ≤ 256; omega), if_neg (by show ¬ ¬ (0 : Nat) ≤ 256; omega), if_neg (fun h => h.2 (by decide))]
  show (if chkL [x] (0 + 1) = 0 then (if chkP [] (0 + 1) = 0 then onceErr [] else chkP [] (0 + 1)) else chkL [x] (0 + 1)) = chk x 1
  rw [chkL, chkL, chkP, if_pos rfl, onceErr_ok (by simp)]
  show (if (if chk x 1 = 0 then 0 else chk x 1) = 0 then 0 else (if chk x 1 = 0 then 0 else chk x 1)) = chk x 1
  by_cases h : chk x 1 = 0
  · rw [h]; rfl
  · rw [if_neg h, if_neg h]
theorem list_four {x : V} (hf : FitD (listOf x)) {c : Int} (h0 : chk (listOf x) 0 = 0) (h : writeR (listOf x) = .error c) : c = 4 := by
  unfold writeR at h
  rw [if_pos h0] at h
  cases hw : wmsg (listOf x) with
  | error e => rw [hw] at h; injection h with h; subst h; rw [err_four _ _ (Nat.le_refl _) hf 0 h0 e hw]; rfl
  | ok u => rw [hw] at h; cases h
end Go.Proofs.YtnnnnlcpmocnfaaDoor

/- MESSAGES OF VALUES: other fields beside them. -/
namespace Go.Proofs.YtnnnnlcpmocnfaaDoor
open Go.RowKit
set_option linter.unusedVariables false
set_option linter.unusedSimpArgs false
attribute [local go_sem] run_store_float

/-- a value's message is one of one field, of its kind, or of none -/
theorem wmsg_fields {x : V} {d : Int} (hfit : FitD x) (hc : chk x d = 0) {t : List UInt8} (h : wmsg x = .ok t) : ∃ fs, wrE fs = .ok t ∧ M.read t = .ok fs ∧ (∀ f ∈ fs, f.n < 18446744073709551616) ∧ (x.k = 0 ∧ fs = [] ∨ ¬ x.k = 0 ∧ ∃ f, fs = [f]) := by
  have R := right_is hc
  obtain ⟨hf, _, _⟩ := hfit
  have k0 := hf.k0
  have key : ∀ f : M.Fd, ¬ x.k = 0 → f.n < 18446744073709551616 → wrE [f] = .ok t → ∃ fs, wrE fs = .ok t ∧ M.read t = .ok fs ∧ (∀ f ∈ fs, f.n < 18446744073709551616) ∧ (x.k = 0 ∧ fs = [] ∨ ¬ x.k = 0 ∧ ∃ f, fs = [f]) := fun f hk hn hw => by
    have hn' : ∀ g ∈ [f], g.n < 18446744073709551616 := fun g hg => by rw [List.mem_singleton.1 hg]; exact hn
    exact ⟨[f], hw, rd_of_wr hn' hw, hn', .inr ⟨hk, f, rfl⟩⟩
  rw [wmsg_eq] at h
  by_cases k1 : x.k = 1
  · rw [if_pos k1] at h; exact key _ (by omega) (bf_n _ _) h
  rw [if_neg k1] at h
  by_cases k2 : x.k = 2
  · rw [if_pos k2] at h; exact key _ (by omega) (by show (if x.b then 1 else 0) < _; split <;> decide) h
  rw [if_neg k2] at h
  by_cases k3 : x.k = 3
  · rw [if_pos k3] at h; exact key _ (by omega) (wrapu_lt _) h
  rw [if_neg k3] at h
  by_cases k4 : x.k = 4
  · rw [if_pos k4] at h; exact key _ (by omega) hf.f1 h
  rw [if_neg k4] at h
  by_cases k5 : x.k = 5
  · rw [if_pos k5] at h; obtain ⟨u, _, h⟩ := around_ok h; exact key _ (by omega) (bf_n _ _) h
  rw [if_neg k5] at h
  by_cases k6 : x.k = 6
  · rw [if_pos k6] at h; obtain ⟨u, _, h⟩ := around_ok h; exact key _ (by omega) (bf_n _ _) h
  rw [if_neg k6] at h
  by_cases k7 : x.k = 7
  · rw [if_pos k7] at h; exact key _ (by omega) (bf_n _ _) h
  rw [if_neg k7] at h
  have B : x.k < 8 := by
    have hb := R.bare
    unfold bareB at hb
    simp only [Bool.and_eq_true, decide_eq_true_eq] at hb
    exact hb.1.1.1.1.1.1
  injection h with h
  subst h
  exact ⟨[], by unfold wrE; rfl, by unfold M.read; rw [M.parse_nil]; rfl, fun f hf => (by cases hf), .inl ⟨by omega, rfl⟩⟩
theorem rmsg_told {n : Nat} {a b : List UInt8} {fa fb : List M.Fd} (ha : M.read a = .ok fa) (hb : M.read b = .ok fb) (h : toldOf fa = toldOf fb) : rmsg n a = rmsg n b := by
  have key : ∀ k g, rbody k g a = rbody k g b := fun k g => by unfold rbody; rw [ha, hb]; dsimp only; rw [h]
  cases n with
  | zero => exact key 0 _
  | succ n => exact key (n + 1) _
theorem wr_is {fs : List M.Fd} {t : List UInt8} (h : wrE fs = .ok t) : t = M.enc fs ∧ fs.all M.may = true := by
  rcases wrE_cases fs with ⟨e, _, _, h2⟩ | ⟨_, h2, h3, h4, h5⟩
  · rw [h2] at h; cases h
  · rw [h2] at h; injection h with h; exact ⟨h.symm, h3⟩
theorem read_both {fs gs : List M.Fd} {t u : List UInt8} (h1 : wrE fs = .ok t) (h2 : wrE gs = .ok u) (hn1 : ∀ f ∈ fs, f.n < 18446744073709551616) (hn2 : ∀ f ∈ gs, f.n < 18446744073709551616) (hl : (t ++ u).length ≤ 65536) (hc : fs.length + gs.length ≤ 4096) : M.read (t ++ u) = .ok (fs ++ gs) := by
  obtain ⟨e1, m1⟩ := wr_is h1
  obtain ⟨e2, m2⟩ := wr_is h2
  subst e1 e2
  rw [← M.enc_append] at hl ⊢
  refine M.read_enc (by rw [List.all_append, m1, m2]; rfl) (fun f hf => ?_) hl (by rw [List.length_append]; omega)
  rcases List.mem_append.1 hf with hf | hf
  · exact hn1 f hf
  · exact hn2 f hf
theorem told_beside {fs : List M.Fd} {f : M.Fd} (hk : kindOf f = 0) (h : fs = [] ∨ ∃ g, fs = [g]) : toldOf (fs ++ [f]) = toldOf fs ∧ toldOf ([f] ++ fs) = toldOf fs := by
  have h0 : toldOf [f] = toldOf [] := by have := toldOf_snoc [] f; rw [if_pos hk] at this; exact this
  refine ⟨by rw [toldOf_snoc, if_pos hk], ?_⟩
  rcases h with rfl | ⟨g, rfl⟩
  · exact h0
  · have h1 := toldOf_snoc [] g
    rw [toldOf_snoc, h0]
    exact h1.symm
theorem kind_none (num : Int) (extra : List UInt8) (h : 8 ≤ num) : kindOf (bf num extra) = 0 := by
  unfold kindOf
  rw [if_neg (by simp only; omega), if_neg (by simp only; omega), if_neg (by simp only; omega), if_neg (by simp only; omega), if_neg (by simp only; omega), if_neg (by simp only; omega), if_neg (by simp only; omega)]
/-- fields that a value has not, behind it or ahead of it, are no matter -/
theorem top_read {x : V} (hf : FitD x) {t u : List UInt8} (h : writeR x = .ok t) {num : Int} {extra : List UInt8} (hn : 8 ≤ num) (hu : wrE [bf num extra] = .ok u) (hl : t.length + u.length ≤ 65536) : rmsg 8 (t ++ u) = .ok x ∧ rmsg 8 (u ++ t) = .ok x := by
  have hc := writeR_right h
  have hb := back_write hf h
  have hw : wmsg x = .ok t := by
    unfold writeR at h
    rw [if_pos hc] at h
    cases hw : wmsg x with
    | error e => rw [hw] at h; cases h
    | ok u => rw [hw] at h; injection h with h; rw [h]
  obtain ⟨fs, hw1, hr, hn1, hfs⟩ := wmsg_fields hf hc hw
  have hn2 : ∀ f ∈ [bf num extra], f.n < 18446744073709551616 := fun f hf => by rw [List.mem_singleton.1 hf]; exact bf_n _ _
  have h1 : fs = [] ∨ ∃ g, fs = [g] := by rcases hfs with ⟨_, h⟩ | ⟨_, h⟩; exact .inl h; exact .inr h
  have hlen : fs.length ≤ 1 := by rcases h1 with rfl | ⟨g, rfl⟩ <;> simp
  have ht := told_beside (kind_none num extra hn) h1
  refine ⟨?_, ?_⟩
  · rw [rmsg_told (read_both hw1 hu hn1 hn2 (by rw [List.length_append]; omega) (by simp; omega)) hr ht.1]; exact hb
  · rw [rmsg_told (read_both hu hw1 hn2 hn1 (by rw [List.length_append]; omega) (by simp; omega)) hr ht.2]; exact hb
/-- what the message is read as, as fields -/
theorem top_fields {x : V} (hf : FitD x) {t : List UInt8} (h : writeR x = .ok t) : ∃ fs, M.read t = .ok fs ∧ (x.k = 0 ∧ fs = [] ∨ ¬ x.k = 0 ∧ ∃ f, fs = [f]) := by
  have hc := writeR_right h
  unfold writeR at h
  rw [if_pos hc] at h
  cases hw : wmsg x with
  | error e => rw [hw] at h; cases h
  | ok u =>
    rw [hw] at h; injection h with h; subst h
    obtain ⟨fs, _, hr, _, hfs⟩ := wmsg_fields hf hc hw
    exact ⟨fs, hr, hfs⟩
end Go.Proofs.YtnnnnlcpmocnfaaDoor
