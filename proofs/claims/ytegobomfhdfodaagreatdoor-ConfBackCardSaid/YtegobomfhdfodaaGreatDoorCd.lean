/- CONF: THE WALKS OVER isKey, plain, quotedOrWord, item. -/
import Derived.Test.YtegobomfhdfodaaGreatDoorCc
namespace Go.Proofs.YtegobomfhdfodaaGreatDoor
open Go.RowKit
set_option maxRecDepth 100000
set_option linter.unusedVariables false
set_option linter.unusedSimpArgs false

namespace K
def ofKeys : T := [97, 98, 99, 100, 101, 102, 103, 104, 105, 106, 107, 108, 109, 110, 111, 112, 113, 114, 115, 116, 117, 118, 119, 120, 121, 122, 65, 66, 67, 68, 69, 70, 71, 72, 73, 74, 75, 76, 77, 78, 79, 80, 81, 82, 83, 84, 85, 86, 87, 88, 89, 90, 48, 49, 50, 51, 52, 53, 54, 55, 56, 57, 95, 45, 47, 46]
def isKey (l : T) : Bool := !l.isEmpty && decide (l.length ≤ 64) && (Lib.trimS l ofKeys).isEmpty
/-- how much of l is a plain text, at most -/
def plainLen (l : T) : Nat := (Lib.trimRightB (Lib.cut l [32, 35]).1 32).length
def plainOf (l : T) : Option (T × T) := if isPlain (l.take (plainLen l)) then some (l.take (plainLen l), l.drop (plainLen l)) else none
theorem cut_len (l sep : T) : (Lib.cut l sep).1.length ≤ l.length := by
  unfold Lib.cut
  split
  · simp; omega
  · exact Nat.le_refl _
theorem plainLen_le (l : T) : plainLen l ≤ l.length := by
  have h1 := cut_len l [32, 35]
  have h2 : (Lib.trimRightB (Lib.cut l [32, 35]).1 32).length ≤ (Lib.cut l [32, 35]).1.length := by
    unfold Lib.trimRightB
    rw [List.length_reverse]
    refine Nat.le_trans (List.dropWhile_suffix _).length_le ?_
    rw [List.length_reverse]
    exact Nat.le_refl _
  unfold plainLen
  omega
/-- a quoted text, or a word -/
def qw (l : T) : Option (T × T) :=
  match l with
  | 34 :: t => qt (t.length + 1) [] t
  | l => if isWord (l.take (upto l wordNo)) then some (l.take (upto l wordNo), l.drop (upto l wordNo)) else none
def item (l : T) : Option (T × T) := (qw (bare l)).map fun x => (x.1, bare x.2)
theorem qt_len : ∀ (f : Nat) (acc l x r : T), qt f acc l = some (x, r) → r.length ≤ l.length
  | 0, _, _, _, _, h => by cases h
  | f + 1, acc, [], _, _, h => by cases h
  | f + 1, acc, b :: t, x, r, h => by
    unfold qt at h
    split at h
    · injection h with h; injection h with h1 h2; rw [← h2]; simp
    · cases hq : q1 b t with
      | none => rw [hq] at h; cases h
      | some y =>
        rw [hq] at h
        obtain ⟨c, u⟩ := y
        have h1 := qt_len f _ _ _ _ h
        have h2 := q1_len hq
        simp only [List.length_cons] at h1 ⊢
        omega
theorem qw_len {l x r : T} (h : qw l = some (x, r)) : r.length ≤ l.length := by
  unfold qw at h
  split at h
  · have := qt_len _ _ _ _ _ h
    simp; omega
  · split at h
    · injection h with h; injection h with h1 h2; rw [← h2]; simp
    · cases h
theorem item_len {l x r : T} (h : item l = some (x, r)) : r.length ≤ l.length := by
  unfold item at h
  cases hq : qw (bare l) with
  | none => rw [hq] at h; cases h
  | some y =>
    rw [hq] at h
    obtain ⟨a, b⟩ := y
    simp only [Option.map_some, Option.some.injEq, Prod.mk.injEq] at h
    have h1 := qw_len hq
    have h2 := bare_len b
    have h3 := bare_len l
    rw [← h.2]
    omega
end K
theorem Tb.mv {w w' : World} {g : Nat} (h : Tb w) (hm : w.grownBy w' (some g)) (hg : 4 < g) : Tb w' := by
  obtain ⟨⟨m, hc⟩, hlt⟩ := h
  refine ⟨⟨m, ?_⟩, Nat.lt_of_lt_of_le hlt hm.size⟩
  have := hm.block 4 hlt (fun e => by injection e with e; omega)
  unfold World.cell? at hc ⊢
  simp only at hc ⊢
  rw [this]
  exact hc
theorem key_any (l : K.T) (hl : l.length ≤ 140737488355328) (w : World) : Calls Tryz.prog 55 #[S l] w fun e w' => e = .returned (.bool (K.isKey l)) ∧ Below w.heap.size w w' := by
  unfold K.isKey
  have htr : ∀ w, Calls Tryz.prog 88 #[S l, .string ⟨K.ofKeys.toArray⟩] w fun e w' => e = .returned (S (Lib.trimS l K.ofKeys)) ∧ Below w.heap.size w w' := fun w =>
    Any.strings_Trim_laid Tryz.lays160 (by kernel_rfl) ⟨l.toArray⟩ ⟨K.ofKeys.toArray⟩ w (by rw [S_size]; omega) (by decide) (ascii_of_all (by decide))
  by_cases h0 : l = []
  · subst h0
    go_enter Tryz.func55, Tryz.ntmps55
    go_wp2
    go_ret
    exact ⟨rfl, Below.refl _ _⟩
  · have hie : List.isEmpty l = false := by cases l with | nil => exact absurd rfl h0 | cons => rfl
    rw [hie]
    by_cases h64 : l.length ≤ 64
    · have h64' : (l.length : Int) ≤ 64 := by omega
      rw [decide_eq_true h64]
      obtain ⟨u, hu⟩ : ∃ u, Lib.trimS l K.ofKeys = u := ⟨_, rfl⟩
      rw [hu]
      simp only [hu] at htr
      clear hu
      go_enter Tryz.func55, Tryz.ntmps55
      go_wp2_with (refine (htr _).mono ?_; rintro e w1 ⟨rfl, hb⟩)
      go_ret
      exact ⟨by simp, hb⟩
    · have h64' : ¬ (l.length : Int) ≤ 64 := by omega
      rw [decide_eq_false h64]
      go_enter Tryz.func55, Tryz.ntmps55
      go_wp2
      go_ret
      exact ⟨rfl, Below.refl _ _⟩
theorem cut_any (l : K.T) (hl : l.length ≤ 1000000000) (w : World) (hT : Tb w) : Calls Tryz.prog 118 #[S l, .string ⟨#[32, 35]⟩] w fun e w' => e = .returned (.tuple #[S (Lib.cut l [32, 35]).1, S (Lib.cut l [32, 35]).2.1, .bool (Lib.cut l [32, 35]).2.2]) ∧ Below w.heap.size w w' := by
  obtain ⟨⟨m, hm⟩, _⟩ := hT
  refine (Tryz.strings_Cut ⟨l.toArray⟩ ⟨#[32, 35]⟩ m w (by rw [S_size]; omega) hm).mono fun e w' h => ⟨h.1, ?_⟩
  obtain ⟨n, rfl⟩ := h.2
  exact below_drewN' w n
theorem tr_any (l : K.T) (hl : l.length ≤ 1000000000) (w : World) : Calls Tryz.prog 119 #[S l, .string ⟨#[32]⟩] w fun e w' => e = .returned (S (Lib.trimRightB l 32)) ∧ w = w' :=
  (Tryz.strings_TrimRight_one ⟨l.toArray⟩ 32 (by decide) w (by rw [S_size]; omega)).mono fun e w' h => ⟨h.1, h.2.symm⟩
theorem cu_plain (w : World) (g : Nat) (l : K.T) (hc : Cur w g l) (hl : l.length ≤ 1000000000) (hT : Tb w) (hg : 4 < g) :
    Calls Tryz.prog 92 #[.pointer (some ⟨g, 0, none⟩)] w (QP g w (K.plainOf l)) := by
  have hcut := cut_any l hl w hT
  have hcl := K.cut_len l [32, 35]
  have hpl := K.plainLen_le l
  unfold K.plainOf
  unfold K.plainLen at *
  obtain ⟨a, ha⟩ : ∃ a, (Lib.cut l [32, 35]).1 = a := ⟨_, rfl⟩
  obtain ⟨b, hb⟩ : ∃ a, (Lib.cut l [32, 35]).2.1 = a := ⟨_, rfl⟩
  obtain ⟨d, hd⟩ : ∃ a, (Lib.cut l [32, 35]).2.2 = a := ⟨_, rfl⟩
  rw [ha, hb, hd] at hcut
  rw [ha] at hcl hpl ⊢
  clear ha hb hd
  have htr := fun w => tr_any a (by omega) w
  have s1 := S_size (Lib.trimRightB a 32)
  obtain ⟨u, hu⟩ : ∃ u, Lib.trimRightB a 32 = u := ⟨_, rfl⟩
  simp only [hu] at htr hpl s1 ⊢
  clear hu hcl
  have c0 := hc.cell
  have hlt := blk_lt hc
  have Hc := Lib.hid hc
  have HT := Lib.hid hT
  clear hc hT
  obtain ⟨R, hR⟩ : ∃ R, (if K.isPlain (l.take u.length) = true then some (l.take u.length, l.drop u.length) else none) = R := ⟨_, rfl⟩
  rw [hR]
  have HR := Lib.hid hR
  clear hR
  go_enter Tryz.func92, Tryz.ntmps92
  go_wp2_with (first | (go_at_call 118; refine hcut.mono ?_; rintro e w1 ⟨rfl, hb1⟩) | (go_at_call 119; refine (htr _).mono ?_; rintro e w2 ⟨rfl, rfl⟩))
  have hc1 := Hc.out.under hb1
  refine (cu_take w1 g l u.length hc1 hpl).mono ?_
  rintro e w2 ⟨rfl, hm⟩
  have HM := Lib.hid (hm.behind hb1)
  have hp := plain_any (l.take u.length) (by simp; omega) w2 ((HT.out.under hb1).mv hm.2 hg)
  have Hb1 := Lib.hid hb1
  clear hm hb1 hc1
  cases hpb : K.isPlain (l.take u.length)
  · rw [hpb] at hp
    have hR' : R = none := by rw [← HR.out, if_neg (by rw [hpb]; decide)]
    go_wp2_with (go_at_call 43; refine hp.mono ?_; rintro e w3 ⟨rfl, hb3⟩)
    refine (unless_no 15 w3).mono ?_
    rintro e w4 ⟨rfl, rfl⟩
    go_wp2
    try rw [hR']
    exact ⟨rfl, QP.none rfl (HM.out.2.trans (below_grown hb3 _))⟩
  · rw [hpb] at hp
    have hR' : R = some (l.take u.length, l.drop u.length) := by rw [← HR.out, if_pos hpb]
    go_wp2_with (go_at_call 43; refine hp.mono ?_; rintro e w3 ⟨rfl, hb3⟩)
    refine (unless_yes 15 w3).mono ?_
    rintro e w4 ⟨rfl, rfl⟩
    go_wp2
    go_ret
    try rw [hR']
    exact QP.some rfl ⟨HM.out.1.under hb3, HM.out.2.trans (below_grown hb3 _)⟩
theorem QP.behind {g : Nat} {w w1 w' : World} {o : Option (K.T × K.T)} {e : Ending} (h : QP g w1 o e w') (hm : w.grownBy w1 (Option.some g)) : QP g w o e w' := by
  cases o with
  | none => exact ⟨h.1, hm.trans h.2⟩
  | some x => exact ⟨h.1, h.2.1, hm.trans h.2.2⟩
theorem cu_qw (w : World) (g : Nat) (l : K.T) (hc : Cur w g l) (hl : l.length ≤ 1000000000) (hT : Tb w) (hg : 4 < g) :
    Calls Tryz.prog 132 #[.pointer (some ⟨g, 0, none⟩)] w (QP g w (K.qw l)) := by
  have hat := cu_at w g l 34 hc
  by_cases hq : ∃ t, l = 34 :: t
  · obtain ⟨t, rfl⟩ := hq
    have hcq := cu_quoted w g t hc (by simp at hl; omega)
    rw [show K.qw (34 :: t) = K.qt (t.length + 1) [] t from rfl]
    rw [show ((34 :: t : K.T).head? == some 34) = true from by simp] at hat
    obtain ⟨R, hR⟩ : ∃ R, K.qt (t.length + 1) [] t = R := ⟨_, rfl⟩
    rw [hR] at hcq ⊢
    clear hR
    go_enter Tryz.func132, Tryz.ntmps132
    go_wp2_with (go_at_call 57; refine hat.mono ?_; rintro e w1 ⟨rfl, rfl⟩)
    refine hcq.mono ?_
    intro e w1 hQ
    cases R with
    | none =>
      obtain ⟨rfl, hgr⟩ := hQ
      go_wp2
      exact ⟨rfl, QP.none rfl hgr⟩
    | some x =>
      obtain ⟨rfl, hm⟩ := hQ
      go_wp2
      go_ret
      exact QP.some (x := x.1) (r := x.2) rfl hm
  · have hqw : K.qw l = if K.isWord (l.take (K.upto l K.wordNo)) then some (l.take (K.upto l K.wordNo), l.drop (K.upto l K.wordNo)) else none := by
      unfold K.qw
      split
      · exact absurd ⟨_, rfl⟩ hq
      · rfl
    rw [hqw]
    have hhd : (l.head? == some 34) = false := by
      cases l with
      | nil => rfl
      | cons x t =>
        have : x ≠ 34 := fun e => hq ⟨t, by rw [e]⟩
        simp [this]
    rw [hhd] at hat
    have hun := cu_until w g l K.wordNo hl hc (ixa_any K.wordNo (by decide) (by decide) (by decide) l hl w)
    obtain ⟨R, hR⟩ : ∃ R, (if K.isWord (l.take (K.upto l K.wordNo)) = true then some (l.take (K.upto l K.wordNo), l.drop (K.upto l K.wordNo)) else none) = R := ⟨_, rfl⟩
    rw [hR]
    have hul := K.upto_len l K.wordNo
    obtain ⟨u, hu⟩ : ∃ u, K.upto l K.wordNo = u := ⟨_, rfl⟩
    rw [hu] at hR hun hul
    have HR := Lib.hid hR
    clear hR hqw hhd hu
    go_enter Tryz.func132, Tryz.ntmps132
    go_wp2_with (go_at_call 57; refine hat.mono ?_; rintro e w1 ⟨rfl, rfl⟩)
    refine hun.mono ?_
    rintro e w1 ⟨rfl, hm⟩
    have hp := word_any (l.take u) (by simp; omega) w1 (hT.mv hm.2 hg)
    have HM := Lib.hid hm
    clear hm hun hat
    cases hpb : K.isWord (l.take u)
    · rw [hpb] at hp
      have hR' : R = none := by rw [← HR.out, if_neg (by rw [hpb]; decide)]
      go_wp2_with (go_at_call 81; refine hp.mono ?_; rintro e w3 ⟨rfl, hb3⟩)
      refine (unless_no 15 w3).mono ?_
      rintro e w4 ⟨rfl, rfl⟩
      go_wp2
      try rw [hR']
      exact ⟨rfl, QP.none rfl (HM.out.2.trans (below_grown hb3 _))⟩
    · rw [hpb] at hp
      have hR' : R = some (l.take u, l.drop u) := by rw [← HR.out, if_pos hpb]
      go_wp2_with (go_at_call 81; refine hp.mono ?_; rintro e w3 ⟨rfl, hb3⟩)
      refine (unless_yes 15 w3).mono ?_
      rintro e w4 ⟨rfl, rfl⟩
      go_wp2
      go_ret
      try rw [hR']
      exact QP.some rfl ⟨HM.out.1.under hb3, HM.out.2.trans (below_grown hb3 _)⟩
theorem cu_item (w : World) (g : Nat) (l : K.T) (hc : Cur w g l) (hl : l.length ≤ 1000000000) (hT : Tb w) (hg : 4 < g) :
    Calls Tryz.prog 117 #[.pointer (some ⟨g, 0, none⟩)] w (QP g w (K.item l)) := by
  have hsp := cu_spaces w g l (by omega) hc
  have hbl := K.bare_len l
  unfold K.item
  obtain ⟨u, hu⟩ : ∃ u, K.bare l = u := ⟨_, rfl⟩
  rw [hu] at hsp hbl ⊢
  clear hu
  obtain ⟨R, hR⟩ : ∃ R, K.qw u = R := ⟨_, rfl⟩
  have hlen : ∀ x r, R = some (x, r) → r.length ≤ u.length := fun x r h => K.qw_len (hR.trans h)
  rw [hR]
  have HR := Lib.hid hR
  have HT := Lib.hid hT
  clear hR hT
  go_enter Tryz.func117, Tryz.ntmps117
  go_wp2_with (go_at_call 53; refine hsp.mono ?_; rintro e w1 ⟨rfl, hm⟩)
  have hcq := cu_qw w1 g u hm.1 (by omega) (HT.out.mv hm.2 hg) hg
  rw [HR.out] at hcq
  have HM := Lib.hid hm
  clear hm hsp
  refine hcq.mono ?_
  intro e w2 hQ
  cases R with
  | none =>
    obtain ⟨rfl, hgr⟩ := hQ
    go_wp2
    exact ⟨rfl, QP.none rfl (HM.out.2.trans hgr)⟩
  | some x =>
    obtain ⟨x, r⟩ := x
    obtain ⟨rfl, hm2⟩ := hQ
    have hr := hlen x r rfl
    have hs2 := cu_spaces w2 g r (by omega) hm2.1
    have HM2 := Lib.hid hm2
    clear hm2 hlen hcq
    go_wp2_with (go_at_call 53; refine hs2.mono ?_; rintro e w3 ⟨rfl, hm3⟩)
    go_ret
    exact QP.some rfl ⟨hm3.1, (HM.out.2.trans HM2.out.2).trans hm3.2⟩
end Go.Proofs.YtegobomfhdfodaaGreatDoor
