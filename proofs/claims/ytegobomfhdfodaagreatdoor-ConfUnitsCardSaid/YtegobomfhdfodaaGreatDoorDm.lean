/- CONF: THE WALKS OVER the document's number, Millis, Bytes. -/
import Derived.BigQuiet
import Derived.Deep.QuietTactic
import Derived.Test.YtegobomfhdfodaaGreatDoorCi
import Derived.Test.YtegobomfhdfodaaGreatDoorCix
namespace Go.Proofs.YtegobomfhdfodaaGreatDoor
open Go.RowKit
set_option maxRecDepth 100000
set_option linter.unusedVariables false
set_option linter.unusedSimpArgs false

namespace K
def isDig (n : Nat) : Bool := decide (48 ≤ n) && decide (n ≤ 57)
theorem digits_dig (c : UInt8) : digits.contains c = isDig c.toNat := by
  have h : ∀ n : Fin 256, digits.contains (UInt8.ofNat n.val) = isDig n.val := by decide
  have := h ⟨c.toNat, c.toNat_lt⟩
  simpa using this
theorem size_take (l : T) : l.take (size l) = l.takeWhile (digits.contains ·) := by
  have h := List.takeWhile_append_dropWhile (p := (digits.contains ·)) (l := l)
  have hl := congrArg List.length h
  rw [List.length_append] at hl
  have : size l = (l.takeWhile (digits.contains ·)).length := by unfold size unit Lib.trimLeftS; omega
  rw [this]
  exact (List.prefix_iff_eq_take.1 (List.takeWhile_prefix _)).symm
theorem size_drop (l : T) : l.drop (size l) = unit l := by
  have h := List.takeWhile_append_dropWhile (p := (digits.contains ·)) (l := l)
  have h2 := List.take_append_drop (size l) l
  rw [size_take] at h2
  exact List.append_cancel_left (h2.trans h.symm)
theorem size_le (l : T) : size l ≤ l.length := by unfold size; omega
theorem dig_in (l : T) (k : Nat) (h : k < size l) (c : UInt8) (hc : l[k]? = some c) : isDig c.toNat = true := by
  obtain ⟨hl, rfl⟩ := List.getElem?_eq_some_iff.1 hc
  have hm : l[k] ∈ l.take (size l) := List.mem_take_iff_getElem.2 ⟨k, by omega, rfl⟩
  have := take_digits l _ hm
  unfold isDig
  simp [this]
theorem dig_out (l : T) (c : UInt8) (hc : l[size l]? = some c) : isDig c.toNat = false := by
  obtain ⟨hl, rfl⟩ := List.getElem?_eq_some_iff.1 hc
  have h := size_drop l
  rw [List.drop_eq_getElem_cons hl] at h
  rw [← digits_dig]
  have hd : ∀ (m : T) (x : UInt8) (r : T), m.dropWhile (digits.contains ·) = x :: r → digits.contains x = false := by
    intro m x r e
    have := List.head?_dropWhile_not (digits.contains ·) m
    rw [e] at this
    simpa using this
  exact hd l _ _ h.symm
theorem dec_snoc : ∀ (l : T) (acc : Nat) (c : UInt8), dec acc (l ++ [c]) = dec acc l * 10 + (c.toNat - 48)
  | [], _, _ => rfl
  | _ :: r, _, c => dec_snoc r _ c
theorem dec_lt (l : T) (h : l.length ≤ 9) (hd : ∀ c ∈ l, 48 ≤ c.toNat ∧ c.toNat ≤ 57) : dec 0 l < 1000000000 := by
  have hp : (10 : Nat) ^ l.length ≤ 10 ^ 9 := Nat.pow_le_pow_right (by decide) h
  exact (dec_parse 1000000000 18446744073709551615 rfl (by decide) l.length l 0 rfl hd (by rw [Nat.zero_add, Nat.one_mul]; exact hp)).2
/-- the document's number: its value, what follows, whether there is one -/
def num (l : T) : Nat × T × Bool := if 9 < size l then (0, [], false) else (dec 0 (l.take (size l)), unit l, decide (0 < size l))
end K
theorem digit_any (c : Nat) (hc : c < 256) (w : World) : Calls Tryz.prog 39 #[.int .u8 (c : Int)] w fun e w' => e = .returned (.bool (K.isDig c)) ∧ w = w' := by
  unfold K.isDig
  by_cases h1 : 48 ≤ c
  · have h1' : (48 : Int) ≤ (c : Int) := by omega
    by_cases h2 : c ≤ 57
    · have h2' : (c : Int) ≤ 57 := by omega
      rw [decide_eq_true h1, decide_eq_true h2]
      go_enter Tryz.func39, Tryz.ntmps39
      go_wp2
      refine bodyPost_ret (v := .bool true) (by simp [results, Tryz.results39, go_sem]) rfl ?_
      exact ⟨rfl, rfl⟩
    · have h2' : ¬ (c : Int) ≤ 57 := by omega
      rw [decide_eq_true h1, decide_eq_false h2]
      go_enter Tryz.func39, Tryz.ntmps39
      go_wp2
      refine bodyPost_ret (v := .bool false) (by simp [results, Tryz.results39, go_sem]) rfl ?_
      exact ⟨rfl, rfl⟩
  · have h1' : ¬ (48 : Int) ≤ (c : Int) := by omega
    rw [decide_eq_false h1]
    go_enter Tryz.func39, Tryz.ntmps39
    go_wp2
    refine bodyPost_ret (v := .bool false) (by simp [results, Tryz.results39, go_sem]) rfl ?_
    exact ⟨rfl, rfl⟩
set_option maxHeartbeats 4000000 in
theorem number_any (l : K.T) (hl : l.length ≤ 9223372036854775800) (w : World) : Calls Tryz.prog 23 #[S l] w fun e w' => e = .returned (.tuple #[.int .u64 ((K.num l).1 : Int), S (K.num l).2.1, .bool (K.num l).2.2]) ∧ Below w.heap.size w w' := by
  obtain ⟨R, hR⟩ : ∃ R, K.num l = R := ⟨_, rfl⟩
  rw [hR]
  unfold K.num at hR
  have HR := Lib.hid hR
  have hdl := K.size_le l
  have hin := K.dig_in l
  have hout := K.dig_out l
  have hdrop := K.size_drop l
  have hs := S_size l
  have htd := K.take_digits l
  obtain ⟨d, hd⟩ : ∃ d, K.size l = d := ⟨_, rfl⟩
  rw [hd] at hdl hR hdrop htd
  simp only [hd] at hin hout
  have HIN := Lib.hid hin
  have HOUT := Lib.hid hout
  have HDR := Lib.hid hdrop
  have HTD := Lib.hid htd
  have HRR := Lib.hid hR
  clear hR HR hin hout hdrop htd hd
  go_enter Tryz.func23, Tryz.ntmps23
  go_wp2
  go_loopw [5, 6] (fun n i wr => ∃ k : Nat, i = .int .i64 (k : Int) ∧ n = .int .u64 (K.dec 0 (l.take k) : Int) ∧ k ≤ d ∧ k ≤ 9 ∧ wr = w) (fun n i _ => d - (intOf i).toNat)
  case atStart => exact ⟨0, rfl, rfl, Nat.zero_le _, by omega, rfl⟩
  case round =>
    obtain ⟨k, rfl, rfl, hk, hk9, rfl⟩ := hrel
    by_cases hkl : k < l.length
    · have hkl' : (k : Int) < (l.length : Int) := by omega
      obtain ⟨c, hc⟩ : ∃ c, l[k] = c := ⟨_, rfl⟩
      have hcs : l[k]? = some c := by rw [List.getElem?_eq_getElem hkl, hc]
      have hix := fun W => index_str l k hkl (c.toNat : Int) (by rw [hc]) W
      have hc256 : c.toNat < 256 := c.toNat_lt
      have hdg := fun W => digit_any c.toNat hc256 W
      by_cases hkd : k < d
      · have hdig := HIN.out k hkd c hcs
        simp only [hdig] at hdg
        have hcd : 48 ≤ c.toNat ∧ c.toNat ≤ 57 := by unfold K.isDig at hdig; simpa using hdig
        by_cases h9 : k = 9
        · have hR : R = (0, [], false) := by rw [← HRR.out, if_pos (by omega)]
          subst hR
          have H9 := Lib.hid h9
          clear h9
          go_wp2_with (go_at_call 39; refine (hdg _).mono ?_; rintro e w1 ⟨rfl, rfl⟩)
          · refine bodyPost_ret (v := .tuple #[.int .u64 0, S [], .bool false]) (by simp [results, Tryz.results23, go_sem]) rfl ?_
            exact ⟨rfl, Below.refl _ _⟩
          · rename_i hx
            exfalso
            have := H9.out
            subst this
            revert hx
            decide
        · have hsn : K.dec 0 (l.take (k + 1)) = K.dec 0 (l.take k) * 10 + (c.toNat - 48) := by
            rw [List.take_add_one, hcs]
            exact K.dec_snoc _ _ _
          have hlt : K.dec 0 (l.take k) < 1000000000 := K.dec_lt _ (by rw [List.length_take]; omega) (fun x hx => HTD.out x (by rw [List.mem_take_iff_getElem] at hx ⊢; obtain ⟨i, hi, e⟩ := hx; exact ⟨i, by omega, e⟩))
          have hk9' : ¬ (k : Int) = 9 := by omega
          have HSN := Lib.hid hsn
          clear hsn
          obtain ⟨m, hm⟩ : ∃ m, K.dec 0 (l.take k) = m := ⟨_, rfl⟩
          rw [hm] at hlt ⊢
          have HM := Lib.hid hm
          clear hm
          go_wp2_with (go_at_call 39; refine (hdg _).mono ?_; rintro e w1 ⟨rfl, rfl⟩)
          exact ⟨⟨k + 1, by go_num, by rw [HSN.out, HM.out]; congr 1; omega, by omega, by omega, trivial⟩, by simp [intOf]; omega⟩
      · obtain rfl : k = d := by omega
        have hdig := HOUT.out c hcs
        simp only [hdig] at hdg
        have hsf := slice_from l k (by omega)
        rw [HDR.out] at hsf
        have HV := Lib.hid (show R = (K.dec 0 (l.take k), K.unit l, decide (0 < k)) by rw [← HRR.out, if_neg (by omega)])
        clear hc hcs
        go_wp2_with (go_at_call 39; refine (hdg _).mono ?_; rintro e w1 ⟨rfl, rfl⟩)
        go_quiet (fail)
        go_wp2
        refine bodyPost_ret (v := .tuple #[.int .u64 (R.1 : Int), S R.2.1, .bool R.2.2]) (by simp [results, Tryz.results23, go_sem, HV.out]) rfl ?_
        exact ⟨rfl, below_drewN' _ _⟩
    · have hkl' : ¬ (k : Int) < (l.length : Int) := by omega
      obtain rfl : k = d := by omega
      have hsf := slice_from l k (by omega)
      rw [HDR.out] at hsf
      have HV := Lib.hid (show R = (K.dec 0 (l.take k), K.unit l, decide (0 < k)) by rw [← HRR.out, if_neg (by omega)])
      go_wp2
      go_quiet (fail)
      go_wp2
      refine bodyPost_ret (v := .tuple #[.int .u64 (R.1 : Int), S R.2.1, .bool R.2.2]) (by simp [results, Tryz.results23, go_sem, HV.out]) rfl ?_
      exact ⟨rfl, below_drewN' _ _⟩
end Go.Proofs.YtegobomfhdfodaaGreatDoor
