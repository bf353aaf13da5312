/- THE DOCUMENT'S OWN HASH, WALKED. -/
import Derived.Test.YtnnnnlcpmocnfaaDoorVal4
import Derived.Outline
import Derived.WalkLawsBesides
import Derived.Deep.RegionLaw
import Derived.Deep.RegionHeld3
namespace Go.Proofs.YtnnnnlcpmocnfaaDoor
open Go.RowKit
set_option linter.unusedVariables false
set_option linter.unusedSimpArgs false

set_option maxHeartbeats 1000000 in
theorem rhash_any (l : List UInt8) (w : World) (hl : l.length ≤ 9223372036854775807) :
    Calls Tryd.prog 32 #[.string ⟨l.toArray⟩] w fun e w' => e = .returned (.int .u64 (hashI l)) ∧ w = w' := by
  go_enter Tryd.func32, Tryd.ntmps32
  go_wp2
  go_loop [3, 4] (fun h i => ∃ (k : Nat) (x : Int), k ≤ l.length ∧ i = .int .i64 (k : Int) ∧ h = .int .u64 x ∧ x = hashI (l.take k)) (fun _ i => l.length - (intOf i).toNat)
  case atStart => exact ⟨0, 14695981039346656037, by omega, rfl, rfl, rfl⟩
  case round =>
    obtain ⟨k, x, hk, rfl, rfl, hx⟩ := hrel
    by_cases hlt : k < l.length
    · obtain ⟨c, hc⟩ : ∃ c : Int, c = (l[k].toNat : Int) := ⟨_, rfl⟩
      have hc0 : 0 ≤ c := by omega
      have hc1 : c ≤ 255 := by have := l[k].toNat_lt; omega
      have hix := fun W => index_str (P := Tryd.prog) Tryd.underlying9 l k hlt c hc W
      have hn : hstep x c = hashI (l.take (k + 1)) := by rw [List.take_succ_eq_append_getElem hlt, hashI_snoc, ← hx, hc]
      have Hn := Lib.hid hn
      clear hx hc hn
      go_wp2
      go_round
      case rel => exact ⟨k + 1, hstep x c, by omega, by go_num, rfl, Hn.out⟩
      case measure => simp [intOf]; omega
    · have hf : x = hashI l := by rw [hx, List.take_of_length_le (by omega)]
      have Hf := Lib.hid hf
      clear hx hf
      go_wp2
      go_ret
      exact ⟨by rw [Hf.out]; rfl, rfl⟩
end Go.Proofs.YtnnnnlcpmocnfaaDoor
