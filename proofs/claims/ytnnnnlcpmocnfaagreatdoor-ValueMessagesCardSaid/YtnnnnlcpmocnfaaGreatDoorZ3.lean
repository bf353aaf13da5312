/- THE LAW ValueHeld's zero, WALKED. -/
import Derived.Test.YtnnnnlcpmocnfaaGreatDoorCk4
import Derived.Test.YtnnnnlcpmocnfaaGreatDoorZ1
import Derived.Test.YtnnnnlcpmocnfaaGreatDoorZ2
import Derived.Outline
import Derived.WalkLawsBesides
import Derived.Deep.RegionLaw
import Derived.Deep.RegionHeld3
namespace Go.Proofs.YtnnnnlcpmocnfaaGreatDoor
open Go.RowKit
set_option linter.unusedVariables false
set_option linter.unusedSimpArgs false
attribute [local go_sem] run_store_float


theorem zero_any (x : V) (hf : FitV x) (c1 c2 : Nat) (a1 a2 : Option Addr) (w : World) :
    Calls Tryz.prog 80 #[.agg (cv x (.slice a1 x.l.length c1) (.slice a2 x.p.length c2))] w fun e w' => e = .returned (.bool (bareB x)) ∧ w.alloc (.cells (cv x (.slice a1 x.l.length c1) (.slice a2 x.p.length c2)) 27) = w' := by
  have k0 := hf.k0
  obtain ⟨k, s, b, n, f, l, p⟩ := x
  show Calls Tryz.prog 80 #[.agg (gv k s b n f (.slice a1 l.length c1) (.slice a2 p.length c2))] w fun e w' => e = .returned (.bool (bareB (.mk k s b n f l p))) ∧ w.alloc (.cells (gv k s b n f (.slice a1 l.length c1) (.slice a2 p.length c2)) 27) = w'
  have k0' : 0 ≤ k := k0
  clear k0 hf
  unfold bareB V.k V.s V.b V.n V.f V.l V.p
  simp only [isEmpty_len l, isEmpty_len p]
  generalize l.length = m1
  generalize p.length = m2
  by_cases h8 : 8 ≤ k
  · have e : decide (k < 8) = false := by simp; omega
    rw [e]
    exact zero_8 k h8 s b n f m1 m2 c1 c2 a1 a2 w
  have hk : k = 0 ∨ k = 1 ∨ k = 2 ∨ k = 3 ∨ k = 4 ∨ k = 5 ∨ k = 6 ∨ k = 7 := by omega
  clear h8 k0'
  rcases hk with rfl | rfl | rfl | rfl | rfl | rfl | rfl | rfl
  · cases hs : s.toList.isEmpty
    · simpa [hs] using zero_0_s s b n f m1 m2 c1 c2 a1 a2 w hs
    · cases b
      rotate_left
      · simpa [hs] using zero_0_b s true n f m1 m2 c1 c2 a1 a2 w hs
      · cases hn : (n == 0)
        · simpa [hs, hn] using zero_0_n s false n f m1 m2 c1 c2 a1 a2 w hs hn
        · rcases Nat.eq_zero_or_pos f with rfl | hq
          rotate_left
          · have hf : ¬ f = 0 := by omega
            have hf' : (f == 0) = false := by simp; omega
            simpa [hs, hn, hf'] using zero_0_f s false n f m1 m2 c1 c2 a1 a2 w hs hn hf
          · rcases Nat.eq_zero_or_pos m1 with rfl | hlq
            rotate_left
            · have hl : 0 < (m1 : Int) := by omega
              have hl' : (m1 == 0) = false := by simp; omega
              simpa [hs, hn, hl'] using zero_0_l s false n 0 m1 m2 c1 c2 a1 a2 w hs hn hl
            · rcases Nat.eq_zero_or_pos m2 with rfl | hpq
              rotate_left
              · have hp : 0 < (m2 : Int) := by omega
                have hp' : (m2 == 0) = false := by simp; omega
                simpa [hs, hn, hp'] using zero_0_p s false n 0 0 m2 c1 c2 a1 a2 w hs hn hp
              · simpa [hs, hn] using zero_0_ok s false n 0 0 0 c1 c2 a1 a2 w hs hn
  · cases b
    rotate_left
    · simpa [] using zero_1_b s true n f m1 m2 c1 c2 a1 a2 w 
    · cases hn : (n == 0)
      · simpa [hn] using zero_1_n s false n f m1 m2 c1 c2 a1 a2 w hn
      · rcases Nat.eq_zero_or_pos f with rfl | hq
        rotate_left
        · have hf : ¬ f = 0 := by omega
          have hf' : (f == 0) = false := by simp; omega
          simpa [hn, hf'] using zero_1_f s false n f m1 m2 c1 c2 a1 a2 w hn hf
        · rcases Nat.eq_zero_or_pos m1 with rfl | hlq
          rotate_left
          · have hl : 0 < (m1 : Int) := by omega
            have hl' : (m1 == 0) = false := by simp; omega
            simpa [hn, hl'] using zero_1_l s false n 0 m1 m2 c1 c2 a1 a2 w hn hl
          · rcases Nat.eq_zero_or_pos m2 with rfl | hpq
            rotate_left
            · have hp : 0 < (m2 : Int) := by omega
              have hp' : (m2 == 0) = false := by simp; omega
              simpa [hn, hp'] using zero_1_p s false n 0 0 m2 c1 c2 a1 a2 w hn hp
            · simpa [hn] using zero_1_ok s false n 0 0 0 c1 c2 a1 a2 w hn
  · cases hs : s.toList.isEmpty
    · simpa [hs] using zero_2_s s b n f m1 m2 c1 c2 a1 a2 w hs
    · cases hn : (n == 0)
      · simpa [hs, hn] using zero_2_n s b n f m1 m2 c1 c2 a1 a2 w hs hn
      · rcases Nat.eq_zero_or_pos f with rfl | hq
        rotate_left
        · have hf : ¬ f = 0 := by omega
          have hf' : (f == 0) = false := by simp; omega
          simpa [hs, hn, hf'] using zero_2_f s b n f m1 m2 c1 c2 a1 a2 w hs hn hf
        · rcases Nat.eq_zero_or_pos m1 with rfl | hlq
          rotate_left
          · have hl : 0 < (m1 : Int) := by omega
            have hl' : (m1 == 0) = false := by simp; omega
            simpa [hs, hn, hl'] using zero_2_l s b n 0 m1 m2 c1 c2 a1 a2 w hs hn hl
          · rcases Nat.eq_zero_or_pos m2 with rfl | hpq
            rotate_left
            · have hp : 0 < (m2 : Int) := by omega
              have hp' : (m2 == 0) = false := by simp; omega
              simpa [hs, hn, hp'] using zero_2_p s b n 0 0 m2 c1 c2 a1 a2 w hs hn hp
            · simpa [hs, hn] using zero_2_ok s b n 0 0 0 c1 c2 a1 a2 w hs hn
  · cases hs : s.toList.isEmpty
    · simpa [hs] using zero_3_s s b n f m1 m2 c1 c2 a1 a2 w hs
    · cases b
      rotate_left
      · simpa [hs] using zero_3_b s true n f m1 m2 c1 c2 a1 a2 w hs
      · rcases Nat.eq_zero_or_pos f with rfl | hq
        rotate_left
        · have hf : ¬ f = 0 := by omega
          have hf' : (f == 0) = false := by simp; omega
          simpa [hs, hf'] using zero_3_f s false n f m1 m2 c1 c2 a1 a2 w hs hf
        · rcases Nat.eq_zero_or_pos m1 with rfl | hlq
          rotate_left
          · have hl : 0 < (m1 : Int) := by omega
            have hl' : (m1 == 0) = false := by simp; omega
            simpa [hs, hl'] using zero_3_l s false n 0 m1 m2 c1 c2 a1 a2 w hs hl
          · rcases Nat.eq_zero_or_pos m2 with rfl | hpq
            rotate_left
            · have hp : 0 < (m2 : Int) := by omega
              have hp' : (m2 == 0) = false := by simp; omega
              simpa [hs, hp'] using zero_3_p s false n 0 0 m2 c1 c2 a1 a2 w hs hp
            · simpa [hs] using zero_3_ok s false n 0 0 0 c1 c2 a1 a2 w hs
  · cases hs : s.toList.isEmpty
    · simpa [hs] using zero_4_s s b n f m1 m2 c1 c2 a1 a2 w hs
    · cases b
      rotate_left
      · simpa [hs] using zero_4_b s true n f m1 m2 c1 c2 a1 a2 w hs
      · cases hn : (n == 0)
        · simpa [hs, hn] using zero_4_n s false n f m1 m2 c1 c2 a1 a2 w hs hn
        · rcases Nat.eq_zero_or_pos m1 with rfl | hlq
          rotate_left
          · have hl : 0 < (m1 : Int) := by omega
            have hl' : (m1 == 0) = false := by simp; omega
            simpa [hs, hn, hl'] using zero_4_l s false n f m1 m2 c1 c2 a1 a2 w hs hn hl
          · rcases Nat.eq_zero_or_pos m2 with rfl | hpq
            rotate_left
            · have hp : 0 < (m2 : Int) := by omega
              have hp' : (m2 == 0) = false := by simp; omega
              simpa [hs, hn, hp'] using zero_4_p s false n f 0 m2 c1 c2 a1 a2 w hs hn hp
            · simpa [hs, hn] using zero_4_ok s false n f 0 0 c1 c2 a1 a2 w hs hn
  · cases hs : s.toList.isEmpty
    · simpa [hs] using zero_5_s s b n f m1 m2 c1 c2 a1 a2 w hs
    · cases b
      rotate_left
      · simpa [hs] using zero_5_b s true n f m1 m2 c1 c2 a1 a2 w hs
      · cases hn : (n == 0)
        · simpa [hs, hn] using zero_5_n s false n f m1 m2 c1 c2 a1 a2 w hs hn
        · rcases Nat.eq_zero_or_pos f with rfl | hq
          rotate_left
          · have hf : ¬ f = 0 := by omega
            have hf' : (f == 0) = false := by simp; omega
            simpa [hs, hn, hf'] using zero_5_f s false n f m1 m2 c1 c2 a1 a2 w hs hn hf
          · rcases Nat.eq_zero_or_pos m2 with rfl | hpq
            rotate_left
            · have hp : 0 < (m2 : Int) := by omega
              have hp' : (m2 == 0) = false := by simp; omega
              simpa [hs, hn, hp'] using zero_5_p s false n 0 m1 m2 c1 c2 a1 a2 w hs hn hp
            · simpa [hs, hn] using zero_5_ok s false n 0 m1 0 c1 c2 a1 a2 w hs hn
  · cases hs : s.toList.isEmpty
    · simpa [hs] using zero_6_s s b n f m1 m2 c1 c2 a1 a2 w hs
    · cases b
      rotate_left
      · simpa [hs] using zero_6_b s true n f m1 m2 c1 c2 a1 a2 w hs
      · cases hn : (n == 0)
        · simpa [hs, hn] using zero_6_n s false n f m1 m2 c1 c2 a1 a2 w hs hn
        · rcases Nat.eq_zero_or_pos f with rfl | hq
          rotate_left
          · have hf : ¬ f = 0 := by omega
            have hf' : (f == 0) = false := by simp; omega
            simpa [hs, hn, hf'] using zero_6_f s false n f m1 m2 c1 c2 a1 a2 w hs hn hf
          · rcases Nat.eq_zero_or_pos m1 with rfl | hlq
            rotate_left
            · have hl : 0 < (m1 : Int) := by omega
              have hl' : (m1 == 0) = false := by simp; omega
              simpa [hs, hn, hl'] using zero_6_l s false n 0 m1 m2 c1 c2 a1 a2 w hs hn hl
            · simpa [hs, hn] using zero_6_ok s false n 0 0 m2 c1 c2 a1 a2 w hs hn
  · cases b
    rotate_left
    · simpa [] using zero_7_b s true n f m1 m2 c1 c2 a1 a2 w 
    · cases hn : (n == 0)
      · simpa [hn] using zero_7_n s false n f m1 m2 c1 c2 a1 a2 w hn
      · rcases Nat.eq_zero_or_pos f with rfl | hq
        rotate_left
        · have hf : ¬ f = 0 := by omega
          have hf' : (f == 0) = false := by simp; omega
          simpa [hn, hf'] using zero_7_f s false n f m1 m2 c1 c2 a1 a2 w hn hf
        · rcases Nat.eq_zero_or_pos m1 with rfl | hlq
          rotate_left
          · have hl : 0 < (m1 : Int) := by omega
            have hl' : (m1 == 0) = false := by simp; omega
            simpa [hn, hl'] using zero_7_l s false n 0 m1 m2 c1 c2 a1 a2 w hn hl
          · rcases Nat.eq_zero_or_pos m2 with rfl | hpq
            rotate_left
            · have hp : 0 < (m2 : Int) := by omega
              have hp' : (m2 == 0) = false := by simp; omega
              simpa [hn, hp'] using zero_7_p s false n 0 0 m2 c1 c2 a1 a2 w hn hp
            · simpa [hn] using zero_7_ok s false n 0 0 0 c1 c2 a1 a2 w hn
end Go.Proofs.YtnnnnlcpmocnfaaGreatDoor
