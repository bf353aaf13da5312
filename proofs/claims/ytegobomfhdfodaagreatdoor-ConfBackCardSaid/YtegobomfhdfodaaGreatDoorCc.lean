/- CONF: THE WALKS OVER isPlain, isWord, isKey, isText. -/
import Derived.Shelf.GgClosure.StringsIndexFuncTop
import Derived.Shelf.Strings.SlTrimAscii
import Derived.Test.YtegobomfhdfodaaGreatDoorCq
namespace Go.Proofs.YtegobomfhdfodaaGreatDoor
open Go.RowKit
set_option maxRecDepth 100000
set_option linter.unusedVariables false
set_option linter.unusedSimpArgs false

theorem any_high {p : Nat → Bool} (hp : ∀ x, 128 ≤ x → p x = p 128) : ∀ (l : K.T), (∀ c ∈ l, 128 ≤ c.toNat) → l ≠ [] → l.any (fun b => p b.toNat) = p 128
  | [], _, h => absurd rfl h
  | [b], hl, _ => by simp [hp b.toNat (hl b (by simp))]
  | b :: c :: t, hl, _ => by
    have := any_high hp (c :: t) (fun x hx => hl x (by simp at hx ⊢; exact .inr hx)) (by simp)
    rw [List.any_cons, this, hp b.toNat (hl b (by simp)), Bool.or_self]
theorem idx_any (p : Nat → Bool) (hp : ∀ x, 128 ≤ x → p x = p 128) (s : ByteArray) : ∀ (f pos : Nat), s.size ≤ pos + f →
    decide (0 ≤ Lib.idxFuncFrom p true s f pos) = (s.data.toList.drop pos).any (fun b => p b.toNat)
  | 0, pos, h => by
    rw [List.drop_of_length_le (by rw [← Lib.size_eq]; omega)]
    rfl
  | f + 1, pos, h => by
    by_cases hlt : pos < s.size
    · have hdr : s.data.toList.drop pos = (s.data.toList)[pos]'(by rw [← Lib.size_eq]; exact hlt) :: s.data.toList.drop (pos + 1) := List.drop_eq_getElem_cons _
      obtain ⟨b, hb⟩ : ∃ b, (s.data.toList)[pos]'(by rw [← Lib.size_eq]; exact hlt) = b := ⟨_, rfl⟩
      rw [hb] at hdr
      have hd := Lib.decodeL_drop s pos
      simp only [Lib.idxFuncFrom, hlt, if_true]
      by_cases ha : b.toNat < 128
      · have e : Utf8.decode s pos = (b.toNat, 1) := by rw [← hd, hdr]; exact Lib.decodeL_ascii b _ ha
        rw [e, hdr, List.any_cons]
        simp only
        by_cases hpb : p b.toNat = true
        · rw [if_pos hpb, hpb]; simp
        · rw [if_neg hpb, idx_any p hp s f (pos + 1) (by omega)]
          simp [hpb]
      · have hh := dec_hi _ b _ hdr (by omega)
        rw [hd] at hh
        obtain ⟨h1, h2, h3⟩ := hh
        have hw := Lib.width_pos s pos
        have hsp : s.data.toList.drop pos = (s.data.toList.drop pos).take (Utf8.decode s pos).2 ++ s.data.toList.drop (pos + (Utf8.decode s pos).2) := by
          rw [← List.drop_drop, List.take_append_drop]
        rw [hsp, List.any_append, any_high hp _ h3 (by intro h0; have := congrArg List.length h0; simp only [List.length_take, List.length_nil] at this; have : 0 < (s.data.toList.drop pos).length := by rw [hdr]; simp
                                                       omega)]
        rw [hp _ h1]
        by_cases hpb : p 128 = true
        · rw [if_pos hpb, hpb]; simp
        · rw [if_neg hpb, idx_any p hp s f _ (by omega)]
          simp [hpb]
    · rw [Lib.idxFuncFrom_end p true s _ pos hlt, List.drop_of_length_le (by rw [← Lib.size_eq]; omega)]
      rfl
namespace K
def specials : T := [34, 91, 93, 123, 125, 44, 38, 42, 33, 124, 62, 39, 37, 64, 96]
def plainNo : T := [34, 91, 93, 123, 125, 44, 38, 42, 33, 124, 62, 39, 37, 64, 96, 35, 32]
def wordNo : T := [34, 91, 93, 123, 125, 44, 38, 42, 33, 124, 62, 39, 37, 64, 96, 32, 58]
def hasCtl (l : T) : Bool := l.any fun b => ctl b.toNat
def bareOk (l : T) : Bool := !Lib.containsAny (l.take 1) plainNo && !Lib.hasSuffix l [32] && !Lib.contains l [32, 35]
/-- what stands for itself behind a key -/
def isPlain (l : T) : Bool := !l.isEmpty && !hasCtl l && bareOk l
/-- what stands for itself in a list -/
def isWord (l : T) : Bool := isPlain l && !Lib.containsAny l wordNo
theorem ctl_hi : ∀ x, 128 ≤ x → ctl x = ctl 128 := by
  intro x hx
  have : ctl x = false := by simp only [ctl, Bool.or_eq_false_iff, decide_eq_false_iff_not]; exact ⟨by omega, by omega⟩
  rw [this]; rfl
end K
/-- the library's variable that the walks read: bytealg.MaxLen -/
def Tb (w : World) : Prop := (∃ m : Int, w.cell? ⟨4, 0, none⟩ = some (.int .i64 m)) ∧ 4 < w.heap.size
theorem Tb.under {w w' : World} (h : Tb w) (hb : Below w.heap.size w w') : Tb w' := by
  obtain ⟨⟨m, hm⟩, hlt⟩ := h
  exact ⟨⟨m, (hb.cell (p := ⟨4, 0, none⟩) hlt).trans hm⟩, Nat.lt_of_lt_of_le hlt hb.size⟩
theorem cf_ctl (w : World) (l : K.T) : Calls Tryz.prog 76 #[S l, .func (.func 77) #[] #[]] w fun e w' => e = .returned (.bool (K.hasCtl l)) ∧ Below w.heap.size w w' := by
  have h := Tryz.strings_ContainsFunc 77 #[] (fun args W => by kernel_rfl) K.ctl ⟨l.toArray⟩ w (ctl_pred w)
  unfold Lib.idxFunc at h
  rw [idx_any K.ctl K.ctl_hi ⟨l.toArray⟩ _ 0 (by omega), List.drop_zero] at h
  exact h
theorem ca_any (cs : K.T) (ha : ∀ b ∈ cs, b.toNat < 128) (h4 : 4 ≤ cs.length) (hm : cs.length ≤ 1000) (l : K.T) (hl : l.length ≤ 1000000000) (w : World) :
    Calls Tryz.prog 78 #[S l, S cs] w fun e w' => e = .returned (.bool (Lib.containsAny l cs)) ∧ Below w.heap.size w w' := by
  have h := ixa_any cs ha h4 hm l hl w
  unfold Lib.containsAny
  obtain ⟨k, hk⟩ : ∃ k, Lib.indexAny l cs = k := ⟨_, rfl⟩
  rw [hk] at h ⊢
  clear hk
  go_enter Tryz.func78, Tryz.ntmps78
  go_wp2_with (refine h.mono ?_; rintro e w1 ⟨rfl, hb⟩)
  go_ret
  exact ⟨rfl, hb⟩
theorem hs_any (l : K.T) (hl : l.length ≤ 1000000000) (w : World) : Calls Tryz.prog 79 #[S l, .string ⟨#[32]⟩] w fun e w' => e = .returned (.bool (Lib.hasSuffix l [32])) ∧ w = w' :=
  (Tryz.strings_HasSuffix ⟨l.toArray⟩ ⟨#[32]⟩ w (by rw [S_size]; omega)).mono fun e w' h => ⟨h.1, h.2.symm⟩
theorem ct_any (l : K.T) (hl : l.length ≤ 1000000000) (w : World) (hT : Tb w) : Calls Tryz.prog 80 #[S l, .string ⟨#[32, 35]⟩] w fun e w' => e = .returned (.bool (Lib.contains l [32, 35])) ∧ w = w' := by
  obtain ⟨⟨m, hm⟩, _⟩ := hT
  exact (Tryz.strings_Contains ⟨l.toArray⟩ ⟨#[32, 35]⟩ m w (by rw [S_size]; omega) hm).mono fun e w' h => ⟨h.1, h.2.symm⟩
set_option maxHeartbeats 4000000 in
theorem plain_any (l : K.T) (hl : l.length ≤ 1000000000) (w : World) (hT : Tb w) : Calls Tryz.prog 43 #[S l] w fun e w' => e = .returned (.bool (K.isPlain l)) ∧ Below w.heap.size w w' := by
  unfold K.isPlain
  by_cases h0 : l = []
  · subst h0
    go_enter Tryz.func43, Tryz.ntmps43
    go_wp2
    go_ret
    exact ⟨rfl, Below.refl _ _⟩
  · have hie : List.isEmpty l = false := by cases l with | nil => exact absurd rfl h0 | cons => rfl
    have hlen : 1 ≤ l.length := by cases l with | nil => exact absurd rfl h0 | cons => simp
    rw [hie]
    have hcf := cf_ctl w l
    have hsl : ∀ W, (Instr.slice 9 (S l) none (some (.int .i64 1)) none).run Tryz.prog W = .ok (S (l.take 1)) W := slice_to l .i64 1 hlen
    have hca := fun w => ca_any K.plainNo (by decide) (by decide) (by decide) (l.take 1) (by simp; omega) w
    have hhs := fun w => hs_any l hl w
    have hct := fun w hT => ct_any l hl w hT
    unfold K.bareOk
    obtain ⟨b1, hb1⟩ : ∃ b, K.hasCtl l = b := ⟨_, rfl⟩
    obtain ⟨b2, hb2⟩ : ∃ b, Lib.containsAny (l.take 1) K.plainNo = b := ⟨_, rfl⟩
    obtain ⟨b3, hb3⟩ : ∃ b, Lib.hasSuffix l [32] = b := ⟨_, rfl⟩
    obtain ⟨b4, hb4⟩ : ∃ b, Lib.contains l [32, 35] = b := ⟨_, rfl⟩
    rw [hb1] at hcf; rw [hb2] at hca; rw [hb3] at hhs; rw [hb4] at hct
    rw [hb1, hb2, hb3, hb4]
    clear hb1 hb2 hb3 hb4 hlen
    have HT := Lib.hid hT
    clear hT
    cases b1
    · cases b2
      · cases b3
        all_goals
          go_enter Tryz.func43, Tryz.ntmps43
          go_wp2_with (first | (go_at_call 76; refine hcf.mono ?_; rintro e w1 ⟨rfl, hx⟩) | (go_at_call 78; refine (hca _).mono ?_; rintro e w2 ⟨rfl, hy⟩) | (go_at_call 79; refine (hhs _).mono ?_; rintro e w3 ⟨rfl, rfl⟩) | (go_at_call 80; refine (hct _ ((HT.out.under hx).under hy)).mono ?_; rintro e w3 ⟨rfl, rfl⟩))
          go_ret
          exact ⟨rfl, hx.trans (hy.mono hx.size)⟩
      · go_enter Tryz.func43, Tryz.ntmps43
        go_wp2_with (first | (go_at_call 76; refine hcf.mono ?_; rintro e w1 ⟨rfl, hx⟩) | (go_at_call 78; refine (hca _).mono ?_; rintro e w2 ⟨rfl, hy⟩))
        go_ret
        exact ⟨rfl, hx.trans (hy.mono hx.size)⟩
    · go_enter Tryz.func43, Tryz.ntmps43
      go_wp2_with (first | (go_at_call 76; refine hcf.mono ?_; rintro e w1 ⟨rfl, hx⟩))
      go_ret
      exact ⟨rfl, hx⟩
theorem word_any (l : K.T) (hl : l.length ≤ 1000000000) (w : World) (hT : Tb w) : Calls Tryz.prog 81 #[S l] w fun e w' => e = .returned (.bool (K.isWord l)) ∧ Below w.heap.size w w' := by
  have hp := plain_any l hl w hT
  have hca := fun w => ca_any K.wordNo (by decide) (by decide) (by decide) l hl w
  unfold K.isWord
  obtain ⟨b1, hb1⟩ : ∃ b, K.isPlain l = b := ⟨_, rfl⟩
  obtain ⟨b2, hb2⟩ : ∃ b, Lib.containsAny l K.wordNo = b := ⟨_, rfl⟩
  rw [hb1] at hp; rw [hb2] at hca
  rw [hb1, hb2]
  clear hb1 hb2
  cases b1
  · go_enter Tryz.func81, Tryz.ntmps81
    go_wp2_with (first | (go_at_call 43; refine hp.mono ?_; rintro e w1 ⟨rfl, hx⟩))
    go_ret
    exact ⟨rfl, hx⟩
  · go_enter Tryz.func81, Tryz.ntmps81
    go_wp2_with (first | (go_at_call 43; refine hp.mono ?_; rintro e w1 ⟨rfl, hx⟩) | (go_at_call 78; refine (hca _).mono ?_; rintro e w2 ⟨rfl, hy⟩))
    go_ret
    exact ⟨rfl, hx.trans (hy.mono hx.size)⟩
end Go.Proofs.YtegobomfhdfodaaGreatDoor
