/- CONF: THE WALKS OVER until, isControl, unescaped. -/
import Derived.Test.YtegobomfhdfodaaGreatDoorCiy
namespace Go.Proofs.YtegobomfhdfodaaGreatDoor
open Go.RowKit
set_option linter.unusedVariables false
set_option linter.unusedSimpArgs false
set_option maxRecDepth 100000

namespace K
/-- how far it is to one of these bytes, or to the end -/
def upto (l ends : T) : Nat := (l.takeWhile (fun b => !ends.contains b)).length
theorem upto_len (l ends : T) : upto l ends ≤ l.length := (List.takeWhile_prefix _).length_le
theorem upto_no : ∀ (l ends : T), ∀ b ∈ l.take (upto l ends), ends.contains b = false
  | [], _, b, h => by simp at h
  | x :: t, ends, b, h => by
    unfold upto at h
    rw [List.takeWhile_cons] at h
    cases hx : ends.contains x with
    | true => rw [hx] at h; simp at h
    | false =>
      rw [hx] at h
      simp only [Bool.not_false, if_true, List.length_cons, List.take_succ_cons, List.mem_cons] at h
      rcases h with rfl | h
      · exact hx
      · exact upto_no t ends b h
theorem upto_hit : ∀ (l ends : T), upto l ends < l.length → ∃ y, l[upto l ends]? = some y ∧ ends.contains y = true
  | [], _, h => by simp at h
  | x :: t, ends, h => by
    cases hx : ends.contains x with
    | true =>
      have e : upto (x :: t) ends = 0 := by unfold upto; rw [List.takeWhile_cons, hx]; rfl
      rw [e]
      exact ⟨x, rfl, hx⟩
    | false =>
      have e : upto (x :: t) ends = upto t ends + 1 := by unfold upto; rw [List.takeWhile_cons, hx]; rfl
      rw [e] at h ⊢
      exact upto_hit t ends (by simpa using h)
theorem idx_upto (l ends : T) : Lib.indexAny l ends = if upto l ends < l.length then (upto l ends : Int) else -1 := by
  have key : Lib.NoAny l ends (upto l ends) := by
    intro j b hj hb
    refine upto_no l ends b (List.mem_iff_getElem?.2 ⟨j, ?_⟩)
    rw [List.getElem?_take_of_lt hj]
    exact hb
  by_cases h : upto l ends < l.length
  · rw [if_pos h]
    have hx : l[upto l ends]? = some l[upto l ends] := List.getElem?_eq_getElem h
    obtain ⟨y, hy, hyc⟩ := upto_hit l ends h
    rw [hx] at hy
    injection hy with hy
    have hc : ends.contains l[upto l ends] = true := by rw [hy]; exact hyc
    exact Lib.indexAny_hit key hx hc
  · rw [if_neg h]
    exact Lib.indexAny_none (by have := upto_len l ends; rw [show upto l ends = l.length from by omega] at key; exact key)
def ctl (x : Nat) : Bool := decide (x < 32) || decide (x = 127)
/-- what stands behind a backslash means this -/
def unesc (b : UInt8) : Option UInt8 := if b = 92 then some 92 else if b = 34 then some 34 else if b = 110 then some 10 else if b = 116 then some 9 else none
end K
theorem below_grown {w w' : World} (h : Below w.heap.size w w') (r : Option Nat) : w.grownBy w' r := ⟨h.os, h.tape, h.output, h.size, fun k hk _ => h.block k hk⟩
theorem Cur.under {w w' : World} {g : Nat} {l : K.T} (h : Cur w g l) (hb : Below w.heap.size w w') : Cur w' g l := blk_under h hb
theorem Mv.behind {g : Nat} {l : K.T} {w w1 w2 : World} (h : Below w.heap.size w w1) (k : Mv g l w1 w2) : Mv g l w w2 := ⟨k.1, (below_grown h _).trans k.2⟩
theorem cu_until (w : World) (g : Nat) (l ends : K.T) (hl : l.length ≤ 1000000000) (hc : Cur w g l)
    (hix : Calls Tryz.prog 86 #[S l, S ends] w fun e w' => e = .returned (.int .i64 (Lib.indexAny l ends)) ∧ Below w.heap.size w w') :
    Calls Tryz.prog 54 #[.pointer (some ⟨g, 0, none⟩), S ends] w fun e w' => e = .returned (S (l.take (K.upto l ends))) ∧ Mv g (l.drop (K.upto l ends)) w w' := by
  rw [K.idx_upto] at hix
  have hul := K.upto_len l ends
  have s1 := S_size l
  have c0 := hc.cell
  have hlt := blk_lt hc
  have Hc := Lib.hid hc
  clear hc
  by_cases h : K.upto l ends < l.length
  · rw [if_pos h] at hix
    go_enter Tryz.func54, Tryz.ntmps54
    go_wp2_with (go_at_call 86; refine hix.mono ?_; rintro e w1 ⟨rfl, hb⟩)
    have hc1 := Hc.out.under hb
    have hge : (0 : Int) ≤ (K.upto l ends : Int) := by omega
    go_wp2_with fail
    refine (cu_take w1 g l (K.upto l ends) hc1 hul).mono ?_
    rintro e w2 ⟨rfl, hm⟩
    go_wp2
    go_ret
    exact ⟨rfl, hm.behind hb⟩
  · rw [if_neg h] at hix
    obtain ⟨u, hu⟩ : ∃ u, K.upto l ends = u := ⟨_, rfl⟩
    have hul' : u = l.length := by omega
    rw [hu]
    clear hu
    subst hul'
    go_enter Tryz.func54, Tryz.ntmps54
    go_wp2_with (go_at_call 86; refine hix.mono ?_; rintro e w1 ⟨rfl, hb⟩; have hc1 := Hc.out.under hb; have c1 := hc1.cell; have hlt1 := blk_lt hc1; have hb' := Lib.hid hb; clear hb)
    refine (cu_take w1 g l l.length hc1 (Nat.le_refl _)).mono ?_
    rintro e w2 ⟨rfl, hm⟩
    go_wp2
    go_ret
    exact ⟨by rw [List.take_length]; rfl, hm.behind hb'.out⟩
theorem ixa_one (w : World) (l : K.T) (c : UInt8) (hc : c.toNat < 128) : Calls Tryz.prog 86 #[S l, S [c]] w fun e w' => e = .returned (.int .i64 (Lib.indexAny l [c])) ∧ Below w.heap.size w w' :=
  (Tryz.strings_IndexAny_one ⟨l.toArray⟩ ⟨[c].toArray⟩ w rfl (fun j b hj => by
    cases j with
    | zero => simp at hj; subst hj; exact hc
    | succ j => simp at hj)).mono fun e w' h => ⟨h.1, by rw [h.2]; exact Below.refl _ _⟩
theorem ctl_any (x : Nat) (w : World) : Calls Tryz.prog 77 #[.int .i32 (x : Int)] w fun e w' => e = .returned (.bool (K.ctl x)) ∧ w = w' := by
  unfold K.ctl
  by_cases h : x < 32
  · have h' : (x : Int) < 32 := by omega
    rw [decide_eq_true h, Bool.true_or]
    go_enter Tryz.func77, Tryz.ntmps77
    go_wp2
    go_ret
    exact ⟨rfl, rfl⟩
  · have h' : ¬ (x : Int) < 32 := by omega
    rw [decide_eq_false h, Bool.false_or]
    by_cases h2 : x = 127
    · subst h2
      go_enter Tryz.func77, Tryz.ntmps77
      go_wp2
      go_ret
      exact ⟨rfl, rfl⟩
    · have h2' : ((x : Int) == 127) = false := by simp only [beq_eq_false_iff_ne, ne_eq]; omega
      rw [decide_eq_false h2]
      go_enter Tryz.func77, Tryz.ntmps77
      go_wp2
      go_ret
      exact ⟨rfl, rfl⟩
theorem ctl_pred (w : World) : PredAt Tryz.prog 77 #[] encR K.ctl w := fun W x _ => (ctl_any x W).mono fun e w' h => ⟨h.1, 0, h.2.symm⟩
theorem esc_at (b : UInt8) (w : World) : Calls Tryz.prog 106 #[.string ⟨#[92, 34, 110, 116]⟩, .int .u8 (b.toNat : Int)] w fun e w' => e = .returned (.int .i64 (Lib.indexByte [92, 34, 110, 116] b)) ∧ w = w' := by
  have h := Tryz.strings_IndexByte ⟨#[92, 34, 110, 116]⟩ (b.toNat : Int) w
  rw [show ((b.toNat : Int).toNat.toUInt8) = b from by simp] at h
  exact h.mono fun e w' h => ⟨h.1, h.2.symm⟩
theorem unesc_yes (b c : UInt8) (h : K.unesc b = some c) (w : World) : Calls Tryz.prog 116 #[.int .u8 (b.toNat : Int)] w fun e w' => e = .returned (.int .u8 (c.toNat : Int)) ∧ w = w' := by
  have hk : (b = 92 ∧ c = 92) ∨ (b = 34 ∧ c = 34) ∨ (b = 110 ∧ c = 10) ∨ (b = 116 ∧ c = 9) := by
    unfold K.unesc at h
    split at h
    · injection h with h; exact .inl ⟨by assumption, h.symm⟩
    · split at h
      · injection h with h; exact .inr (.inl ⟨by assumption, h.symm⟩)
      · split at h
        · injection h with h; exact .inr (.inr (.inl ⟨by assumption, h.symm⟩))
        · split at h
          · injection h with h; exact .inr (.inr (.inr ⟨by assumption, h.symm⟩))
          · cases h
  have he := fun w => esc_at b w
  rcases hk with ⟨rfl, rfl⟩ | ⟨rfl, rfl⟩ | ⟨rfl, rfl⟩ | ⟨rfl, rfl⟩
  all_goals
    go_enter Tryz.func116, Tryz.ntmps116
    go_wp2_with (go_at_call 106; refine (he _).mono ?_; rintro e w1 ⟨rfl, rfl⟩)
    try go_wp2_with fail
    refine (unless_yes 15 w).mono ?_
    rintro e w1 ⟨rfl, rfl⟩
    go_wp2
    go_ret
    exact ⟨rfl, rfl⟩
theorem unesc_no (b : UInt8) (h : K.unesc b = none) (w : World) : Calls Tryz.prog 116 #[.int .u8 (b.toNat : Int)] w fun e w' => e = pan 15 ∧ w = w' := by
  have he := fun w => esc_at b w
  have hm : Lib.indexByte [92, 34, 110, 116] b = -1 := by
    unfold K.unesc at h
    split at h
    · cases h
    · split at h
      · cases h
      · split at h
        · cases h
        · split at h
          · cases h
          · rename_i h1 h2 h3 h4
            simp [Lib.indexByte, Ne.symm h1, Ne.symm h2, Ne.symm h3, Ne.symm h4]
  rw [hm] at he
  clear h hm
  go_enter Tryz.func116, Tryz.ntmps116
  go_wp2_with (go_at_call 106; refine (he _).mono ?_; rintro e w1 ⟨rfl, rfl⟩)
  refine (unless_no 15 w).mono ?_
  rintro e w1 ⟨rfl, rfl⟩
  go_wp2
  exact ⟨rfl, rfl, rfl⟩
end Go.Proofs.YtegobomfhdfodaaGreatDoor
