/- HTTP: THE DOCUMENT'S OWN line. -/
import Derived.Test.YtjkinjfbjbehjaaGreatDoorGua
import Derived.OwnWalk
import Derived.BigQuiet
namespace Go.Proofs.YtjkinjfbjbehjaaGreatDoor
open Go.RowKit
set_option maxRecDepth 100000
set_option linter.unusedVariables false
set_option linter.unusedSimpArgs false

theorem H.take_at (l : H.T) (j : Nat) (hj : j < l.length) : l.take (j + 1) = l.take j ++ [l[j]] := by rw [List.take_add_one, List.getElem?_eq_getElem hj]; rfl
theorem H.line_at (l : H.T) (j : Nat) (hj : j < l.length) (h4 : j < 4098) (hn : (10 : UInt8) ∉ l.take j) (h10 : l[j] = 10) :
    H.line l = if h : 0 < j then (if l[j - 1] = 13 then .ok (l.take (j - 1), l.drop (j + 1)) else .error 13) else .error 13 := by
  have e1 : l.take 4098 = l.take j ++ 10 :: (l.take 4098).drop (j + 1) := by
    have a1 := (List.take_append_drop j (l.take 4098)).symm
    have a2 : (l.take 4098).take j = l.take j := by rw [List.take_take, Nat.min_eq_left (by omega)]
    have a3 : (l.take 4098).drop j = 10 :: (l.take 4098).drop (j + 1) := by rw [List.drop_eq_getElem_cons (by rw [List.length_take]; omega), List.getElem_take, h10]
    rw [a2, a3] at a1
    exact a1
  have hi : Lib.indexByte (l.take 4098) 10 = ((j : Nat) : Int) := by
    rw [e1, H.idxB_app 10 _ _ hn, List.length_take, Nat.min_eq_left (by omega)]
  unfold H.line
  simp only [hi]
  rw [if_neg (by omega), if_neg (by omega)]
  rw [show (((j : Nat) : Int).toNat + 1) = j + 1 from by omega, H.take_at l j hj, h10]
  by_cases h0 : 0 < j
  · rw [dif_pos h0]
    obtain ⟨k, rfl⟩ : ∃ k, j = k + 1 := ⟨j - 1, by omega⟩
    simp only [Nat.add_sub_cancel]
    rw [H.take_at l k (by omega), List.append_assoc]
    by_cases h13 : l[k] = 13
    · rw [if_pos h13, h13]
      have hs : Lib.hasSuffix (l.take k ++ ([13] ++ [10])) [13, 10] = true := by unfold Lib.hasSuffix; exact List.isSuffixOf_iff_suffix.2 ⟨l.take k, rfl⟩
      rw [if_pos hs]
      unfold Lib.trimSuffix
      rw [if_pos hs]
      have hlk : (l.take k).length = k := by rw [List.length_take]; omega
      congr 2
      rw [List.take_append_of_le_length (by simp [hlk]), List.take_of_length_le (by simp [hlk])]
    · rw [if_neg h13]
      have hs : ¬ Lib.hasSuffix (l.take k ++ ([l[k]] ++ [10])) [13, 10] = true := by
        unfold Lib.hasSuffix
        rw [List.isSuffixOf_iff_suffix]
        rintro ⟨u, hu⟩
        have := congrArg List.reverse hu
        simp at this
        exact h13 this.1.symm
      rw [if_neg hs]
  · rw [dif_neg h0]
    have : j = 0 := by omega
    subst this
    rw [if_neg (by rw [List.take_zero]; decide)]
theorem H.line_end (l : H.T) (hn : (10 : UInt8) ∉ l.take 4098) : H.line l = if l.length < 4098 then .error 14 else .error 4 := by
  have hi : Lib.indexByte (l.take 4098) 10 = -1 := by
    rcases idxB_cases (l.take 4098) 10 with h | ⟨n, h, hn2⟩
    · exact h
    · exfalso
      have key : ∀ (t : H.T) (n : Nat), Lib.indexByte t 10 = (n : Int) → (10 : UInt8) ∈ t := by
        intro t
        induction t with
        | nil => intro n h; simp [Lib.indexByte] at h
        | cons b u ih =>
          intro n h
          by_cases hb : b = 10
          · simp [hb]
          · simp only [Lib.indexByte, beq_iff_eq, hb, if_false] at h
            split at h
            · omega
            · exact List.mem_cons_of_mem _ (ih (Lib.indexByte u 10).toNat (by omega))
      exact hn (key _ n h)
  unfold H.line
  simp only [hi]
  by_cases h : l.length < 4098
  · simp [h]
  · simp [h]
/-- what the document's line answers -/
theorem trip {α β γ : Type} {a a' : α} {b b' : β} {c c' : γ} (h : (a, b, c) = (a', b', c')) : a' = a ∧ b' = b ∧ c' = c := by cases h; exact ⟨rfl, rfl, rfl⟩
def H.lineD (l : H.T) : H.T × Nat × Int := match H.line l with | .ok (t, r) => (t, l.length - r.length, 0) | .error c => ([], 0, c)
set_option maxHeartbeats 2000000 in
theorem dline_any (w : World) (l : H.T) (hl : l.length ≤ 281474976710656) : Calls Tryz.prog 30 #[S l] w fun e w' => e = .returned (.tuple #[S (H.lineD l).1, .int .i64 ((H.lineD l).2.1 : Int), .int .i64 (H.lineD l).2.2]) ∧ w' = w := by
  obtain ⟨z, hz⟩ : ∃ z : Int, ((l.length : Nat) : Int) = z := ⟨_, rfl⟩
  obtain ⟨r1, r2, r3, hR⟩ : ∃ a b c, H.lineD l = (a, b, c) := ⟨_, _, _, rfl⟩
  have HR := Lib.hid hR
  rw [hR]
  simp only
  clear hR
  go_enter Tryz.func30, Tryz.ntmps30
  go_wp2
  go_loopw [5] (fun u wr => ∃ j : Nat, u = .int .i64 (j : Int) ∧ j ≤ l.length ∧ j ≤ 4098 ∧ (10 : UInt8) ∉ l.take j ∧ wr = w) (fun u _ => l.length - (intOf u).toNat)
  case atStart => exact ⟨0, rfl, Nat.zero_le _, by omega, by simp, rfl⟩
  case round =>
    obtain ⟨j, rfl, hj, hj4, hn, rfl⟩ := hrel
    have Hn := Lib.hid hn
    clear hn
    by_cases hlt : j < l.length
    · have hjz : (j : Int) < z := by omega
      by_cases h4 : j < 4098
      · have h4' : (j : Int) < 4098 := by omega
        obtain ⟨x, hx⟩ : ∃ x : Nat, l[j].toNat = x := ⟨_, rfl⟩
        have i1 := fun W => index_str l j hlt (x : Int) (by rw [hx]) W
        have Hx := Lib.hid hx
        clear hx
        by_cases hx10 : x = 10
        · subst hx10
          have h10 : l[j] = 10 := UInt8.toNat_inj.1 Hx.out
          have hline := H.line_at l j hlt h4 Hn.out h10
          by_cases h0 : j = 0
          · subst h0
            have i0 : ∀ W, (Instr.index 9 (S l) (.int .i64 0)).run Tryz.prog W = .ok (.int .u8 10) W := i1
            have hv : r1 = [] ∧ r2 = 0 ∧ r3 = 13 := by
              have := HR.out
              unfold H.lineD at this
              rw [hline] at this
              exact trip this
            obtain ⟨rfl, rfl, rfl⟩ := hv
            clear hline h10
            go_wp2
            go_ret3
            exact ⟨rfl, rfl⟩
          · have hw : IntKind.i64.wrap ((j : Int) - 1) = (j : Int) - 1 := by rw [IntKind.wrap_i64]; omega
            have hw2 : IntKind.i64.wrap ((j : Int) + 1) = (j : Int) + 1 := by rw [IntKind.wrap_i64]; omega
            have h0' : ((j : Int) == 0) = false := by simp; omega
            obtain ⟨y, hy⟩ : ∃ y : Nat, (l[j - 1]'(by omega)).toNat = y := ⟨_, rfl⟩
            have i2 : ∀ W, (Instr.index 9 (S l) (.int .i64 ((j : Int) - 1))).run Tryz.prog W = .ok (.int .u8 (y : Int)) W := fun W => by
              have := index_str l (j - 1) (by omega) (y : Int) (by rw [hy]) W
              rwa [show (((j - 1 : Nat)) : Int) = (j : Int) - 1 from by omega] at this
            rw [dif_pos (by omega)] at hline
            by_cases hy13 : y = 13
            · subst hy13
              rw [if_pos (UInt8.toNat_inj.1 hy)] at hline
              have hv : r1 = l.take (j - 1) ∧ r2 = j + 1 ∧ r3 = 0 := by
                have := HR.out
                unfold H.lineD at this
                rw [hline] at this
                obtain ⟨a, b, c⟩ := trip this
                rw [List.length_drop] at b
                exact ⟨a, by omega, c⟩
              obtain ⟨rfl, rfl, rfl⟩ := hv
              have hb1 : (0 : Int) ≤ (j : Int) - 1 := by omega
              have hb2 : (j : Int) - 1 ≤ z := by omega
              have e1 : (⟨l.toArray⟩ : ByteArray).extract 0 (j - 1) = ⟨(l.take (j - 1)).toArray⟩ := ext_take l (j - 1)
              clear hline h10 hy
              go_wp2
              go_ret3
              exact ⟨rfl, rfl⟩
            · have hy13' : ((y : Int) != 13) = true := by simp; omega
              rw [if_neg (fun h => hy13 (by rw [← hy, h]; rfl))] at hline
              have hv : r1 = [] ∧ r2 = 0 ∧ r3 = 13 := by
                have := HR.out
                unfold H.lineD at this
                rw [hline] at this
                exact trip this
              obtain ⟨rfl, rfl, rfl⟩ := hv
              clear hline h10 hy
              go_wp2
              go_ret3
              exact ⟨rfl, rfl⟩
        · have hx10' : ¬ (x : Int) = 10 := by omega
          have Hn2 := Lib.hid (show (10 : UInt8) ∉ l.take (j + 1) from by
            rw [H.take_at l j hlt, List.mem_append]
            rintro (h | h)
            · exact Hn.out h
            · simp only [List.mem_singleton] at h
              exact hx10 (by rw [← Hx.out, ← h]; rfl))
          go_wp2
          go_roundw
          case rel => exact ⟨j + 1, by go_num, by omega, by omega, Hn2.out, by first | rfl | trivial⟩
          case measure => simp [intOf]; omega
      · have h4' : ¬ (j : Int) < 4098 := by omega
        have hj8 : j = 4098 := by omega
        subst hj8
        have hline := H.line_end l Hn.out
        rw [if_neg (by omega)] at hline
        have hz4 : (4098 : Int) ≤ z := by omega
        have hv : r1 = [] ∧ r2 = 0 ∧ r3 = 4 := by
          have := HR.out
          unfold H.lineD at this
          rw [hline] at this
          exact trip this
        obtain ⟨rfl, rfl, rfl⟩ := hv
        clear hline
        go_wp2
        go_ret3
        exact ⟨rfl, rfl⟩
    · have hjz : ¬ (j : Int) < z := by omega
      have hjl : j = l.length := by omega
      have hline := H.line_end l (by have := Hn.out; rw [List.take_of_length_le (by omega)] at this; exact fun h => this (List.mem_of_mem_take h))
      by_cases h4 : l.length < 4098
      · have hz4 : ¬ (4098 : Int) ≤ z := by omega
        rw [if_pos h4] at hline
        have hv : r1 = [] ∧ r2 = 0 ∧ r3 = 14 := by
          have := HR.out
          unfold H.lineD at this
          rw [hline] at this
          exact trip this
        obtain ⟨rfl, rfl, rfl⟩ := hv
        clear hline hjl
        go_wp2
        go_ret3
        exact ⟨rfl, rfl⟩
      · have hz4 : (4098 : Int) ≤ z := by omega
        rw [if_neg h4] at hline
        have hv : r1 = [] ∧ r2 = 0 ∧ r3 = 4 := by
          have := HR.out
          unfold H.lineD at this
          rw [hline] at this
          exact trip this
        obtain ⟨rfl, rfl, rfl⟩ := hv
        clear hline hjl
        go_wp2
        go_ret3
        exact ⟨rfl, rfl⟩
end Go.Proofs.YtjkinjfbjbehjaaGreatDoor

/- HTTP: THE DOCUMENT'S OWN words. -/
namespace Go.Proofs.YtjkinjfbjbehjaaGreatDoor
open Go.RowKit
set_option maxRecDepth 100000
set_option linter.unusedVariables false
set_option linter.unusedSimpArgs false

theorem results_tmp4 {fn : Func} {t u v x : Tmp} (h : fn.results = #[.tmp t, .tmp u, .tmp v, .tmp x]) (tmps : Array Value) (P : Program) (w : World) :
    (results fn tmps).run P w = .ok (.tuple #[tmps.getD t undef, tmps.getD u undef, tmps.getD v undef, tmps.getD x undef]) w := by
  simp [results, h]
theorem cut_none (c : UInt8) (l : H.T) (h : c ∉ l) : Lib.cut l [c] = (l, [], false) := by
  unfold Lib.cut
  rw [Lib.index_one]
  rw [if_neg]
  have key : ∀ (t : H.T), c ∉ t → Lib.indexByte t c = -1 := by
    intro t
    induction t with
    | nil => intro _; rfl
    | cons b u ih =>
      intro h
      have hb : ¬ b = c := fun e => h (by simp [e])
      have := ih (fun e => h (by simp [e]))
      simp only [Lib.indexByte, beq_iff_eq, hb, if_false, this]
      rfl
  rw [key l h]
  decide
/-- what the document's words answers -/
def H.words (l : H.T) : H.T × H.T × H.T × Bool :=
  let c := Lib.cut l [32]
  let d := Lib.cut c.2.1 [32]
  if c.2.2 && d.2.2 then (c.1, d.1, d.2.1, true) else ([], [], [], false)
theorem H.words_no1 (l : H.T) (h : (32 : UInt8) ∉ l) : H.words l = ([], [], [], false) := by
  unfold H.words
  simp only [cut_none 32 l h]
  rfl
theorem H.words_no2 (l : H.T) (i : Nat) (hi : i < l.length) (h0 : (32 : UInt8) ∉ l.take i) (h1 : l[i] = 32) (h2 : (32 : UInt8) ∉ l.drop (i + 1)) : H.words l = ([], [], [], false) := by
  have e : l = l.take i ++ 32 :: l.drop (i + 1) := by
    conv => lhs; rw [← List.take_append_drop i l, List.drop_eq_getElem_cons hi, h1]
  have c1 : Lib.cut l [32] = (l.take i, l.drop (i + 1), true) := by
    have := cut_one 32 (l.take i) (l.drop (i + 1)) h0
    rwa [← e] at this
  unfold H.words
  simp only [c1, cut_none 32 _ h2]
  rfl
theorem H.words_yes (l : H.T) (i k : Nat) (hi : i < l.length) (hk : k < l.length) (hik : i < k) (h0 : (32 : UInt8) ∉ l.take i) (h1 : l[i] = 32) (h2 : (32 : UInt8) ∉ (l.take k).drop (i + 1)) (h3 : l[k] = 32) :
    H.words l = (l.take i, (l.take k).drop (i + 1), l.drop (k + 1), true) := by
  have e : l = l.take i ++ 32 :: l.drop (i + 1) := by
    conv => lhs; rw [← List.take_append_drop i l, List.drop_eq_getElem_cons hi, h1]
  have c1 : Lib.cut l [32] = (l.take i, l.drop (i + 1), true) := by
    have := cut_one 32 (l.take i) (l.drop (i + 1)) h0
    rwa [← e] at this
  have e2 : l.drop (i + 1) = (l.take k).drop (i + 1) ++ 32 :: l.drop (k + 1) := by
    have : l = l.take k ++ 32 :: l.drop (k + 1) := by
      conv => lhs; rw [← List.take_append_drop k l, List.drop_eq_getElem_cons hk, h3]
    conv => lhs; rw [this]
    rw [List.drop_append_of_le_length (by rw [List.length_take]; omega)]
  have c2 : Lib.cut (l.drop (i + 1)) [32] = ((l.take k).drop (i + 1), l.drop (k + 1), true) := by
    rw [e2]
    exact cut_one 32 _ _ h2
  unfold H.words
  simp only [c1, c2]
  rfl
theorem quad {α β γ δ : Type} {a a' : α} {b b' : β} {c c' : γ} {d d' : δ} (h : (a, b, c, d) = (a', b', c', d')) : a' = a ∧ b' = b ∧ c' = c ∧ d' = d := by cases h; exact ⟨rfl, rfl, rfl, rfl⟩
theorem no_app (l : H.T) (j : Nat) (hj : j < l.length) (c : UInt8) (h : c ∉ l.take j) (h2 : ¬ l[j] = c) : c ∉ l.take (j + 1) := by
  rw [H.take_at l j hj, List.mem_append]
  rintro (h3 | h3)
  · exact h h3
  · simp only [List.mem_singleton] at h3
    exact h2 h3.symm
theorem no_app2 (l : H.T) (i j : Nat) (hij : i ≤ j) (hj : j < l.length) (c : UInt8) (h : c ∉ (l.take j).drop i) (h2 : ¬ l[j] = c) : c ∉ (l.take (j + 1)).drop i := by
  rw [H.take_at l j hj, List.drop_append_of_le_length (by rw [List.length_take]; omega), List.mem_append]
  rintro (h3 | h3)
  · exact h h3
  · simp only [List.mem_singleton] at h3
    exact h2 h3.symm
theorem ext_mid (l : H.T) (a b : Nat) : (⟨l.toArray⟩ : ByteArray).extract a b = ⟨((l.take b).drop a).toArray⟩ := by
  rw [Lib.extract_eq]
  congr 2
  simp [List.drop_take]
set_option maxHeartbeats 2000000 in
theorem dwords_any (w : World) (l : H.T) (hl : l.length ≤ 281474976710656) : Calls Tryz.prog 31 #[S l] w fun e w' => e = .returned (.tuple #[S (H.words l).1, S (H.words l).2.1, S (H.words l).2.2.1, .bool (H.words l).2.2.2]) ∧ ∃ n, w' = w.drewN n := by
  obtain ⟨z, hz⟩ : ∃ z : Int, ((l.length : Nat) : Int) = z := ⟨_, rfl⟩
  have hzl : z ≤ 281474976710656 := by omega
  obtain ⟨r1, r2, r3, r4, hR⟩ : ∃ a b c d, H.words l = (a, b, c, d) := ⟨_, _, _, _, rfl⟩
  have HR := Lib.hid hR
  rw [hR]
  simp only
  clear hR
  go_enter Tryz.func31, Tryz.ntmps31
  go_wp2
  go_loopw [6] (fun u wr => ∃ j : Nat, u = .int .i64 (j : Int) ∧ j ≤ l.length ∧ (32 : UInt8) ∉ l.take j ∧ wr = w) (fun u _ => l.length - (intOf u).toNat)
  case atStart => exact ⟨0, rfl, Nat.zero_le _, by simp, rfl⟩
  case round =>
    obtain ⟨j, rfl, hj, hn, rfl⟩ := hrel
    have Hn := Lib.hid hn
    clear hn
    obtain ⟨wo, rfl⟩ : ∃ wo, wo = wr := ⟨_, rfl⟩
    by_cases hlt : j < l.length
    · have hjz : (j : Int) < z := by omega
      obtain ⟨x, hx⟩ : ∃ x : Nat, l[j].toNat = x := ⟨_, rfl⟩
      have i1 := fun W => index_str l j hlt (x : Int) (by rw [hx]) W
      have Hx := Lib.hid hx
      have hw1 : IntKind.i64.wrap ((j : Int) + 1) = (j : Int) + 1 := by rw [IntKind.wrap_i64]; omega
      clear hx
      by_cases hx32 : x = 32
      · subst hx32
        have h32 : l[j] = 32 := UInt8.toNat_inj.1 Hx.out
        have H32 := Lib.hid h32
        clear h32
        go_wp2
        go_loopw [7] (fun u wr => ∃ k : Nat, u = .int .i64 (k : Int) ∧ j + 1 ≤ k ∧ k ≤ l.length ∧ (32 : UInt8) ∉ (l.take k).drop (j + 1) ∧ wr = wo) (fun u _ => l.length - (intOf u).toNat)
        case atStart => exact ⟨j + 1, by go_num, by omega, by omega, by rw [List.drop_of_length_le (by rw [List.length_take]; omega)]; simp, rfl⟩
        case round =>
          obtain ⟨k, rfl, hjk, hk, hn2, rfl⟩ := hrel
          have Hn2 := Lib.hid hn2
          clear hn2
          by_cases hlt2 : k < l.length
          · have hkz : (k : Int) < z := by omega
            obtain ⟨y, hy⟩ : ∃ y : Nat, l[k].toNat = y := ⟨_, rfl⟩
            have i2 := fun W => index_str l k hlt2 (y : Int) (by rw [hy]) W
            have Hy := Lib.hid hy
            have hw2 : IntKind.i64.wrap ((k : Int) + 1) = (k : Int) + 1 := by rw [IntKind.wrap_i64]; omega
            clear hy
            by_cases hy32 : y = 32
            · subst hy32
              have hy2 : l[k] = 32 := UInt8.toNat_inj.1 Hy.out
              have hv := quad ((H.words_yes l j k hlt hlt2 (by omega) Hn.out H32.out Hn2.out hy2).symm.trans HR.out)
              obtain ⟨rfl, rfl, rfl, rfl⟩ := hv
              have e1 : (⟨l.toArray⟩ : ByteArray).extract 0 j = ⟨(l.take j).toArray⟩ := ext_take l j
              have e2 : (⟨l.toArray⟩ : ByteArray).extract (j + 1) k = ⟨((l.take k).drop (j + 1)).toArray⟩ := ext_mid l (j + 1) k
              have e3 : (⟨l.toArray⟩ : ByteArray).extract (k + 1) l.length = ⟨(l.drop (k + 1)).toArray⟩ := ext_drop l (k + 1)
              have b1 : (j : Int) ≤ z := by omega
              have b2 : (j : Int) + 1 ≤ (k : Int) := by omega
              have b3 : (k : Int) ≤ z := by omega
              have b4 : (k : Int) + 1 ≤ z := by omega
              have b5 : (0 : Int) ≤ (j : Int) := by omega
              have b6 : (0 : Int) ≤ (j : Int) + 1 := by omega
              have b7 : (0 : Int) ≤ (k : Int) + 1 := by omega
              have n1 : ((j : Int) + 1).toNat = j + 1 := by omega
              have n2 : ((k : Int) + 1).toNat = k + 1 := by omega
              clear hy2
              go_wp2
              go_quiet (fail)
              go_wp2
              refine bodyPost_ret (results_tmp4 rfl _ _ _) rfl ?_
              exact ⟨by first | rfl | (simp [e1, e2, e3]), _, rfl⟩
            · have hy32' : ¬ (y : Int) = 32 := by omega
              have Hn3 := Lib.hid (no_app2 l (j + 1) k (by omega) hlt2 32 Hn2.out (fun h => hy32 (by rw [← Hy.out, h]; rfl)))
              go_wp2
              go_roundw
              case rel => exact ⟨k + 1, by go_num, by omega, by omega, Hn3.out, by first | rfl | trivial⟩
              case measure => simp [intOf]; omega
          · have hkz : ¬ (k : Int) < z := by omega
            have hv := quad ((H.words_no2 l j hlt Hn.out H32.out (by have := Hn2.out; rwa [List.take_of_length_le (by omega)] at this)).symm.trans HR.out)
            obtain ⟨rfl, rfl, rfl, rfl⟩ := hv
            go_wp2
            refine bodyPost_ret (results_tmp4 rfl _ _ _) rfl ?_
            exact ⟨rfl, 0, rfl⟩
      · have hx32' : ¬ (x : Int) = 32 := by omega
        have Hn3 := Lib.hid (no_app l j hlt 32 Hn.out (fun h => hx32 (by rw [← Hx.out, h]; rfl)))
        go_wp2
        go_loopw [7] (fun u wr => u = .int .i64 ((j : Int) + 1) ∧ wr = wo) (fun _ _ => 0)
        case atStart => exact ⟨rfl, rfl⟩
        case round =>
          obtain ⟨rfl, rfl⟩ := hrel
          go_wp2
          go_roundw
          case rel => exact ⟨j + 1, by go_num, by omega, Hn3.out, by first | rfl | trivial⟩
          case measure => simp [intOf]; omega
    · have hjz : ¬ (j : Int) < z := by omega
      have hv := quad ((H.words_no1 l (by have := Hn.out; rwa [List.take_of_length_le (by omega)] at this)).symm.trans HR.out)
      obtain ⟨rfl, rfl, rfl, rfl⟩ := hv
      go_wp2
      refine bodyPost_ret (results_tmp4 rfl _ _ _) rfl ?_
      exact ⟨rfl, 0, rfl⟩
end Go.Proofs.YtjkinjfbjbehjaaGreatDoor

/- HTTP: THE DOCUMENT'S OWN head. -/
namespace Go.Proofs.YtjkinjfbjbehjaaGreatDoor
open Go.RowKit
set_option maxRecDepth 100000
set_option linter.unusedVariables false
set_option linter.unusedSimpArgs false

def H.tl (l : H.T) : H.T := l.dropWhile (fun b => H.blank b.toNat)
def H.tr (l : H.T) : H.T := (l.reverse.dropWhile (fun b => H.blank b.toNat)).reverse
theorem H.tr_cons (a : UInt8) (t : H.T) : H.tr (a :: t) = if H.tr t = [] then (if H.blank a.toNat then [] else [a]) else a :: H.tr t := by
  unfold H.tr
  rw [List.reverse_cons, List.dropWhile_append]
  by_cases h : t.reverse.dropWhile (fun b => H.blank b.toNat) = []
  · rw [h]
    simp only [List.isEmpty_nil, if_true, List.reverse_nil, List.dropWhile_cons, List.dropWhile_nil]
    split <;> simp
  · have : (t.reverse.dropWhile (fun b => H.blank b.toNat)).isEmpty = false := by
      cases h2 : t.reverse.dropWhile (fun b => H.blank b.toNat) with
      | nil => exact absurd h2 h
      | cons => rfl
    rw [this]
    simp [h]
theorem H.tl_tr : ∀ l : H.T, H.tl (H.tr l) = H.tr (H.tl l)
  | [] => rfl
  | a :: t => by
    have ih := H.tl_tr t
    have hc : ∀ (b : UInt8) (u : H.T), H.tl (b :: u) = if H.blank b.toNat then H.tl u else b :: u := fun b u => by unfold H.tl; rw [List.dropWhile_cons]
    by_cases h : H.blank a.toNat = true
    · rw [hc, if_pos h, H.tr_cons]
      by_cases h2 : H.tr t = []
      · rw [if_pos h2, if_pos h, ← ih, h2]
      · rw [if_neg h2, hc, if_pos h, ih]
    · rw [hc, if_neg h, H.tr_cons]
      by_cases h2 : H.tr t = []
      · rw [if_pos h2, if_neg h, hc, if_neg h]
      · rw [if_neg h2, hc, if_neg h]
theorem H.trim_two (l : H.T) : Lib.trimS l [32, 9] = H.tr (H.tl l) := by
  rw [← H.tl_tr]
  unfold Lib.trimS Lib.trimLeftS Lib.trimRightS H.tl H.tr
  have : (fun x => ([32, 9] : H.T).contains x) = (fun b : UInt8 => H.blank b.toNat) := by funext b; exact H.blank_p b
  rw [this]
theorem H.tl_yes (b : UInt8) (t : H.T) (h : H.blank b.toNat = true) : H.tl (b :: t) = H.tl t := by unfold H.tl; rw [List.dropWhile_cons, if_pos h]
theorem H.tl_no (b : UInt8) (t : H.T) (h : H.blank b.toNat = false) : H.tl (b :: t) = b :: t := by unfold H.tl; rw [List.dropWhile_cons, if_neg (by rw [h]; decide)]
theorem H.tr_yes (l : H.T) (hl : 0 < l.length) (h : H.blank (l[l.length - 1]'(by omega)).toNat = true) : H.tr (l.take (l.length - 1)) = H.tr l := by
  have e : l = l.take (l.length - 1) ++ [l[l.length - 1]'(by omega)] := by
    have := H.take_at l (l.length - 1) (by omega)
    rw [← this, List.take_of_length_le (by omega)]
  unfold H.tr
  conv => rhs; rw [e]
  rw [List.reverse_append]
  show _ = (List.dropWhile _ ((l[l.length - 1]'(by omega)) :: (l.take (l.length - 1)).reverse)).reverse
  rw [List.dropWhile_cons, if_pos h]
theorem H.tr_no (l : H.T) (hl : 0 < l.length) (h : H.blank (l[l.length - 1]'(by omega)).toNat = false) : H.tr l = l := by
  have e : l = l.take (l.length - 1) ++ [l[l.length - 1]'(by omega)] := by
    have := H.take_at l (l.length - 1) (by omega)
    rw [← this, List.take_of_length_le (by omega)]
  unfold H.tr
  have e2 : l.reverse = (l[l.length - 1]'(by omega)) :: (l.take (l.length - 1)).reverse := by
    conv => lhs; rw [e]
    rw [List.reverse_append]; rfl
  rw [e2, List.dropWhile_cons, if_neg (by rw [h]; decide), ← e2, List.reverse_reverse]
theorem H.head_no (l : H.T) (h : (58 : UInt8) ∉ l) : H.head l = .error 13 := by
  unfold H.head
  simp only [cut_none 58 l h]
  rfl
theorem H.head_yes (l : H.T) (i : Nat) (hi : i < l.length) (h0 : (58 : UInt8) ∉ l.take i) (h1 : l[i] = 58) :
    H.head l = if H.isOf (l.take i) H.tok && H.isValue (H.tr (H.tl (l.drop (i + 1)))) then .ok ⟨l.take i, H.tr (H.tl (l.drop (i + 1)))⟩ else .error 13 := by
  have e : l = l.take i ++ 58 :: l.drop (i + 1) := by
    conv => lhs; rw [← List.take_append_drop i l, List.drop_eq_getElem_cons hi, h1]
  have c1 : Lib.cut l [58] = (l.take i, l.drop (i + 1), true) := by
    have := cut_one 58 (l.take i) (l.drop (i + 1)) h0
    rwa [← e] at this
  unfold H.head
  simp only [c1, H.trim_two, Bool.true_and]
/-- what the document's head answers -/
def HeadD (l : H.T) (e : Ending) : Prop := ∃ (h : H.Hd) (ok : Bool), e = .returned (.tuple #[.agg #[S h.name, S h.value], .bool ok]) ∧ H.head l = (if ok then .ok h else .error 13) ∧ h.name.length ≤ l.length ∧ h.value.length ≤ l.length
theorem csy {f : FuncId} {args : Array Value} {w : World} {v : Ending} (h : Calls Tryz.prog f args w fun e w' => e = v ∧ w' = w) : Calls Tryz.prog f args w fun e w' => e = v ∧ w = w' := h.mono fun _ _ h => ⟨h.1, h.2.symm⟩
theorem ext_one (l : H.T) : (⟨l.toArray⟩ : ByteArray).extract 1 l.length = ⟨(l.drop 1).toArray⟩ := ext_drop l 1
set_option maxHeartbeats 4000000 in
theorem dhead_any (w : World) (l : H.T) (hl : l.length ≤ 1000000000) : Calls Tryz.prog 94 #[S l] w fun e w' => HeadD l e ∧ Below w.heap.size w w' := by
  obtain ⟨z, hz⟩ : ∃ z : Int, ((l.length : Nat) : Int) = z := ⟨_, rfl⟩
  have hzl : z ≤ 1000000000 := by omega
  obtain ⟨X, hX⟩ : ∃ X, X = w.alloc (.cells #[.string ⟨#[]⟩, .string ⟨#[]⟩] 73) := ⟨_, rfl⟩
  have hx : X.heap[w.heap.size]? = some (.cells #[S [], S []] 73 (0, 0)) := by rw [hX]; exact blk_new w _
  have hb : Below w.heap.size w X := by rw [hX]; exact (Below.refl _ w).alloc (Nat.le_refl _) _
  have HkD := Lib.hid (blk_under hx ((Below.refl X.heap.size X).drew))
  have HbD0 := Lib.hid (hb.trans (((Below.refl X.heap.size X).drew).mono hb.size))
  have Hx := Lib.hid hx
  have Hb := Lib.hid hb
  clear hx hb
  go_enter Tryz.func94, Tryz.ntmps94
  go_upto_region 1 with (fail)
  rw [← hX]
  clear hX
  go_wp2
  go_loopw [4] (fun u wr => ∃ j : Nat, u = .int .i64 (j : Int) ∧ j ≤ l.length ∧ (58 : UInt8) ∉ l.take j ∧ wr = X) (fun u _ => l.length - (intOf u).toNat)
  case atStart => exact ⟨0, rfl, Nat.zero_le _, by simp, rfl⟩
  case round =>
    obtain ⟨j, rfl, hj, hn, rfl⟩ := hrel
    have Hn := Lib.hid hn
    clear hn
    obtain ⟨X, rfl⟩ : ∃ X, X = wr := ⟨_, rfl⟩
    by_cases hlt : j < l.length
    · have hjz : (j : Int) < z := by omega
      obtain ⟨x, hx⟩ : ∃ x : Nat, l[j].toNat = x := ⟨_, rfl⟩
      have i1 := fun W => index_str l j hlt (x : Int) (by rw [hx]) W
      have HXX := Lib.hid hx
      have hw1 : IntKind.i64.wrap ((j : Int) + 1) = (j : Int) + 1 := by rw [IntKind.wrap_i64]; omega
      clear hx
      by_cases hx58 : x = 58
      · subst hx58
        have h58 : l[j] = 58 := UInt8.toNat_inj.1 HXX.out
        have HHd := Lib.hid (H.head_yes l j hlt Hn.out h58)
        have e1 : (⟨l.toArray⟩ : ByteArray).extract 0 j = ⟨(l.take j).toArray⟩ := ext_take l j
        have e2 : (⟨l.toArray⟩ : ByteArray).extract (j + 1) l.length = ⟨(l.drop (j + 1)).toArray⟩ := ext_drop l (j + 1)
        have b1 : (0 : Int) ≤ (j : Int) + 1 := by omega
        have b2 : (j : Int) + 1 ≤ z := by omega
        have b3 : (0 : Int) ≤ (j : Int) := by omega
        have b4 : (j : Int) ≤ z := by omega
        have n1 : ((j : Int) + 1).toNat = j + 1 := by omega
        clear h58
        obtain ⟨v0, hv0⟩ : ∃ v, l.drop (j + 1) = v := ⟨_, rfl⟩
        have hv0l : v0.length ≤ 1000000000 := by rw [← hv0, List.length_drop]; omega
        have Hv0l := Lib.hid (show v0.length ≤ l.length by rw [← hv0, List.length_drop]; omega)
        rw [hv0] at HHd e2
        clear hv0
        go_wp2
        go_loopw [5] (fun u wr => ∃ v : H.T, u = S v ∧ v.length ≤ v0.length ∧ H.tl v = H.tl v0 ∧ wr = X) (fun u _ => match u with | .string b => b.size | _ => 0)
        case atStart => exact ⟨v0, by first | rfl | (congr 1), Nat.le_refl _, rfl, rfl⟩
        case round =>
          obtain ⟨v, rfl, hvl, hve, rfl⟩ := hrel
          have Hve := Lib.hid hve
          clear hve
          obtain ⟨X, rfl⟩ : ∃ X, X = wr := ⟨_, rfl⟩
          by_cases hvn : v = []
          · have hv1 : H.tl v0 = v := by rw [← Hve.out, hvn]; rfl
            obtain ⟨v1, hv1'⟩ : ∃ v1, H.tl v0 = v1 := ⟨_, rfl⟩
            subst hvn
            go_wp2
            go_loopw [5] (fun u wr => ∃ v2 : H.T, u = S v2 ∧ v2.length ≤ v0.length ∧ H.tr v2 = H.tr v1 ∧ wr = X) (fun u _ => match u with | .string b => b.size | _ => 0)
            case atStart => exact ⟨[], rfl, by omega, by rw [← hv1', hv1], rfl⟩
            case round =>
              obtain ⟨v2, rfl, hvl2, hve2, rfl⟩ := hrel
              have Hve2 := Lib.hid hve2
              clear hve2
              obtain ⟨X, rfl⟩ : ∃ X, X = wr := ⟨_, rfl⟩
              by_cases hvn2 : v2 = []
              · subst hvn2
                have hv2 : H.tr (H.tl v0) = [] := by rw [hv1', ← Hve2.out]; rfl
                have HHd2 := HHd.out
                rw [hv2] at HHd2
                have Hvl := Lib.hid (show ([] : H.T).length ≤ l.length from by have := Hv0l.out; omega)
                have h32 := fun W => csy (dtoken W (l.take j) (by rw [List.length_take]; omega))
                have h80 := fun W => csy (dvalue_is W ([] : H.T) (by omega))
                cases t1 : H.isOf (l.take j) H.tok with
                | false =>
                  rw [t1] at h32 HHd2
                  have HH := Lib.hid HHd2
                  clear HHd2 h80
                  go_wp2
                  have hvl3 := Hvl.out
                  refine wp_region_any (by kernel_rfl) ?_
                  change wpAny _ _ _ _ _ _ _ X.drew
                  obtain ⟨D, hD⟩ : ∃ D, D = X.drew := ⟨_, rfl⟩
                  rw [← hD]
                  have hkD := HkD.out
                  rw [← hD] at hkD
                  have HbD := Lib.hid (HbD0.out)
                  rw [← hD] at HbD
                  obtain ⟨c0, c1⟩ := box2 hkD
                  obtain ⟨f0, f1⟩ := frz2 hkD
                  have lD := blk_lt hkD
                  have Hk2 := Lib.hid hkD
                  clear hkD hD
                  refine wpAny_take (i := 0) (v := ?vhb1) rfl (by kernel_rfl) (by kernel_rfl) (by kernel_rfl) (fun _ _ _ h => h) (Or.inl ⟨by kernel_rfl, ?hhb1⟩) ?rhb1
                  case hhb1 => (intro w; go_simp; first | done | (with_reducible rfl))
                  refine wpAny_take (i := 1) (v := ?vhb2) rfl (by kernel_rfl) (by kernel_rfl) (by kernel_rfl) (fun _ _ _ h => h) (Or.inl ⟨by kernel_rfl, ?hhb2⟩) ?rhb2
                  case hhb2 => (intro w; go_simp; first | done | (with_reducible rfl))
                  refine wpAny_take (i := 2) (v := ?vhb3) rfl (by kernel_rfl) (by kernel_rfl) (by kernel_rfl) (fun _ _ _ h => h) (Or.inl ⟨by kernel_rfl, ?hhb3⟩) ?rhb3
                  case hhb3 => (intro w; go_simp; first | done | (with_reducible rfl))
                  refine wpAny_take (i := 3) (v := ?vhb4) rfl (by kernel_rfl) (by kernel_rfl) (by kernel_rfl) (fun _ _ _ h => h) (Or.inl ⟨by kernel_rfl, ?hhb4⟩) ?rhb4
                  case hhb4 => (intro w; go_simp; first | done | (with_reducible rfl))
                  refine wpAny_take (i := 4) (v := ?vhb5) rfl (by kernel_rfl) (by kernel_rfl) (by kernel_rfl) (fun _ _ _ h => h) (Or.inl ⟨by kernel_rfl, ?hhb5⟩) ?rhb5
                  case hhb5 => (intro w; go_simp; first | done | (with_reducible rfl))
                  refine wpAny_take (i := 5) (v := ?vhb6) rfl (by kernel_rfl) (by kernel_rfl) (by kernel_rfl) (fun _ _ _ h => h) (Or.inl ⟨by kernel_rfl, ?hhb6⟩) ?rhb6
                  case hhb6 => (intro w; go_simp; first | done | (with_reducible rfl))
                  refine wpAny_take (i := 6) (v := ?vhb7) rfl (by kernel_rfl) (by kernel_rfl) (by kernel_rfl) (fun _ _ _ h => h) (Or.inl ⟨by kernel_rfl, ?hhb7⟩) ?rhb7
                  case hhb7 => (intro w; go_simp; first | done | (with_reducible rfl))
                  refine wpAny_take (i := 7) (v := ?vhb8) rfl (by kernel_rfl) (by kernel_rfl) (by kernel_rfl) (fun _ _ _ h => h) (Or.inl ⟨by kernel_rfl, ?hhb8⟩) ?rhb8
                  case hhb8 => (intro w; go_simp; first | done | (with_reducible rfl))
                  refine wpAny_ready (rs := [8]) (by kernel_rfl) (by simp) ?_
                  refine AllReady.cons rfl (fun K hK => ?_) AllReady.nil
                  go_simp
                  with_reducible refine (h32 _).mono ?_
                  rintro e w5 ⟨rfl, rfl⟩
                  refine hK _ _ ?_
                  clear hK K
                  refine wpAny_take (i := 9) (v := ?vhb9) rfl (by kernel_rfl) (by kernel_rfl) (by kernel_rfl) (fun _ _ _ h => h) (Or.inl ⟨by kernel_rfl, ?hhb9⟩) ?rhb9
                  case hhb9 => (intro w; go_simp; first | done | (with_reducible rfl))
                  refine wpAny_take (i := 10) (v := undef) rfl (by kernel_rfl) (by kernel_rfl) (by kernel_rfl) (fun _ _ _ h => h) (Or.inr ⟨by kernel_rfl, rfl⟩) ?_
                  refine wpAny_take (i := 11) (v := undef) rfl (by kernel_rfl) (by kernel_rfl) (by kernel_rfl) (fun _ _ _ h => h) (Or.inr ⟨by kernel_rfl, rfl⟩) ?_
                  refine wpAny_take (i := 12) (v := ?vhb12) rfl (by kernel_rfl) (by kernel_rfl) (by kernel_rfl) (fun _ _ _ h => h) (Or.inl ⟨by kernel_rfl, ?hhb12⟩) ?rhb12
                  case hhb12 => (intro w; go_simp; first | done | (with_reducible rfl))
                  refine wpAny_ready (rs := [13]) (by kernel_rfl) (by simp) ?_
                  refine AllReady.cons rfl (fun K hK => ?_) AllReady.nil
                  go_simp
                  refine hK _ _ ?_
                  clear hK K
                  refine wpAny_ready (rs := [14]) (by kernel_rfl) (by simp) ?_
                  refine AllReady.cons rfl (fun K hK => ?_) AllReady.nil
                  go_simp
                  refine hK _ _ ?_
                  clear hK K
                  refine wpAny_done (by kernel_rfl) ?_ _
                  try go_simp
                  obtain ⟨V, hV⟩ : ∃ V, V = (D.setCell ⟨w.heap.size, 0, none⟩ (S (l.take j))).setCell ⟨w.heap.size, 1, none⟩ (S ([] : H.T)) := ⟨_, rfl⟩
                  have hbe : Below w.heap.size w V := by rw [hV]; exact (HbD.out.setCell (p := ⟨w.heap.size, 0, none⟩) (Nat.le_refl _) _).setCell (p := ⟨w.heap.size, 1, none⟩) (Nat.le_refl _) _
                  obtain ⟨k1, k2⟩ := cell_put2 Hk2.out (S (l.take j)) (S ([] : H.T))
                  rw [← hV] at k1 k2
                  go_wp2
                  rw [← hV]
                  clear hV
                  refine bodyPost_ret (by simp [results, Tryz.results94, go_sem, k1, k2]; try rfl) rfl ?_
                  exact ⟨⟨⟨l.take j, ([] : H.T)⟩, false, rfl, by rw [HH.out]; rfl, by rw [List.length_take]; omega, by show ([] : H.T).length ≤ _; omega⟩, hbe⟩
                | true =>
                  rw [t1] at h32 HHd2
                  cases t2 : H.isValue ([] : H.T) with
                  | false =>
                    rw [t2] at h80 HHd2
                    have HH := Lib.hid HHd2
                    clear HHd2
                    go_wp2
                    have hvl3 := Hvl.out
                    refine wp_region_any (by kernel_rfl) ?_
                    change wpAny _ _ _ _ _ _ _ X.drew
                    obtain ⟨D, hD⟩ : ∃ D, D = X.drew := ⟨_, rfl⟩
                    rw [← hD]
                    have hkD := HkD.out
                    rw [← hD] at hkD
                    have HbD := Lib.hid (HbD0.out)
                    rw [← hD] at HbD
                    obtain ⟨c0, c1⟩ := box2 hkD
                    obtain ⟨f0, f1⟩ := frz2 hkD
                    have lD := blk_lt hkD
                    have Hk2 := Lib.hid hkD
                    clear hkD hD
                    refine wpAny_take (i := 0) (v := ?vhc1) rfl (by kernel_rfl) (by kernel_rfl) (by kernel_rfl) (fun _ _ _ h => h) (Or.inl ⟨by kernel_rfl, ?hhc1⟩) ?rhc1
                    case hhc1 => (intro w; go_simp; first | done | (with_reducible rfl))
                    refine wpAny_take (i := 1) (v := ?vhc2) rfl (by kernel_rfl) (by kernel_rfl) (by kernel_rfl) (fun _ _ _ h => h) (Or.inl ⟨by kernel_rfl, ?hhc2⟩) ?rhc2
                    case hhc2 => (intro w; go_simp; first | done | (with_reducible rfl))
                    refine wpAny_take (i := 2) (v := ?vhc3) rfl (by kernel_rfl) (by kernel_rfl) (by kernel_rfl) (fun _ _ _ h => h) (Or.inl ⟨by kernel_rfl, ?hhc3⟩) ?rhc3
                    case hhc3 => (intro w; go_simp; first | done | (with_reducible rfl))
                    refine wpAny_take (i := 3) (v := ?vhc4) rfl (by kernel_rfl) (by kernel_rfl) (by kernel_rfl) (fun _ _ _ h => h) (Or.inl ⟨by kernel_rfl, ?hhc4⟩) ?rhc4
                    case hhc4 => (intro w; go_simp; first | done | (with_reducible rfl))
                    refine wpAny_take (i := 4) (v := ?vhc5) rfl (by kernel_rfl) (by kernel_rfl) (by kernel_rfl) (fun _ _ _ h => h) (Or.inl ⟨by kernel_rfl, ?hhc5⟩) ?rhc5
                    case hhc5 => (intro w; go_simp; first | done | (with_reducible rfl))
                    refine wpAny_take (i := 5) (v := ?vhc6) rfl (by kernel_rfl) (by kernel_rfl) (by kernel_rfl) (fun _ _ _ h => h) (Or.inl ⟨by kernel_rfl, ?hhc6⟩) ?rhc6
                    case hhc6 => (intro w; go_simp; first | done | (with_reducible rfl))
                    refine wpAny_take (i := 6) (v := ?vhc7) rfl (by kernel_rfl) (by kernel_rfl) (by kernel_rfl) (fun _ _ _ h => h) (Or.inl ⟨by kernel_rfl, ?hhc7⟩) ?rhc7
                    case hhc7 => (intro w; go_simp; first | done | (with_reducible rfl))
                    refine wpAny_take (i := 7) (v := ?vhc8) rfl (by kernel_rfl) (by kernel_rfl) (by kernel_rfl) (fun _ _ _ h => h) (Or.inl ⟨by kernel_rfl, ?hhc8⟩) ?rhc8
                    case hhc8 => (intro w; go_simp; first | done | (with_reducible rfl))
                    refine wpAny_ready (rs := [8]) (by kernel_rfl) (by simp) ?_
                    refine AllReady.cons rfl (fun K hK => ?_) AllReady.nil
                    go_simp
                    with_reducible refine (h32 _).mono ?_
                    rintro e w5 ⟨rfl, rfl⟩
                    refine hK _ _ ?_
                    clear hK K
                    refine wpAny_take (i := 9) (v := ?vhc9) rfl (by kernel_rfl) (by kernel_rfl) (by kernel_rfl) (fun _ _ _ h => h) (Or.inl ⟨by kernel_rfl, ?hhc9⟩) ?rhc9
                    case hhc9 => (intro w; go_simp; first | done | (with_reducible rfl))
                    refine wpAny_take (i := 10) (v := ?vhc10) rfl (by kernel_rfl) (by kernel_rfl) (by kernel_rfl) (fun _ _ _ h => h) (Or.inl ⟨by kernel_rfl, ?hhc10⟩) ?rhc10
                    case hhc10 => (intro w; go_simp; first | done | (with_reducible rfl))
                    refine wpAny_ready (rs := [11]) (by kernel_rfl) (by simp) ?_
                    refine AllReady.cons rfl (fun K hK => ?_) AllReady.nil
                    go_simp
                    with_reducible refine (h80 _).mono ?_
                    rintro e w6 ⟨rfl, rfl⟩
                    refine hK _ _ ?_
                    clear hK K
                    refine wpAny_take (i := 12) (v := ?vhc11) rfl (by kernel_rfl) (by kernel_rfl) (by kernel_rfl) (fun _ _ _ h => h) (Or.inl ⟨by kernel_rfl, ?hhc11⟩) ?rhc11
                    case hhc11 => (intro w; go_simp; first | done | (with_reducible rfl))
                    refine wpAny_ready (rs := [13]) (by kernel_rfl) (by simp) ?_
                    refine AllReady.cons rfl (fun K hK => ?_) AllReady.nil
                    go_simp
                    refine hK _ _ ?_
                    clear hK K
                    refine wpAny_ready (rs := [14]) (by kernel_rfl) (by simp) ?_
                    refine AllReady.cons rfl (fun K hK => ?_) AllReady.nil
                    go_simp
                    refine hK _ _ ?_
                    clear hK K
                    refine wpAny_done (by kernel_rfl) ?_ _
                    try go_simp
                    obtain ⟨V, hV⟩ : ∃ V, V = (D.setCell ⟨w.heap.size, 0, none⟩ (S (l.take j))).setCell ⟨w.heap.size, 1, none⟩ (S ([] : H.T)) := ⟨_, rfl⟩
                    have hbe : Below w.heap.size w V := by rw [hV]; exact (HbD.out.setCell (p := ⟨w.heap.size, 0, none⟩) (Nat.le_refl _) _).setCell (p := ⟨w.heap.size, 1, none⟩) (Nat.le_refl _) _
                    obtain ⟨k1, k2⟩ := cell_put2 Hk2.out (S (l.take j)) (S ([] : H.T))
                    rw [← hV] at k1 k2
                    go_wp2
                    rw [← hV]
                    clear hV
                    refine bodyPost_ret (by simp [results, Tryz.results94, go_sem, k1, k2]; try rfl) rfl ?_
                    exact ⟨⟨⟨l.take j, ([] : H.T)⟩, false, rfl, by rw [HH.out]; rfl, by rw [List.length_take]; omega, by show ([] : H.T).length ≤ _; omega⟩, hbe⟩
                  | true =>
                    rw [t2] at h80 HHd2
                    have HH := Lib.hid HHd2
                    clear HHd2
                    go_wp2
                    have hvl3 := Hvl.out
                    refine wp_region_any (by kernel_rfl) ?_
                    change wpAny _ _ _ _ _ _ _ X.drew
                    obtain ⟨D, hD⟩ : ∃ D, D = X.drew := ⟨_, rfl⟩
                    rw [← hD]
                    have hkD := HkD.out
                    rw [← hD] at hkD
                    have HbD := Lib.hid (HbD0.out)
                    rw [← hD] at HbD
                    obtain ⟨c0, c1⟩ := box2 hkD
                    obtain ⟨f0, f1⟩ := frz2 hkD
                    have lD := blk_lt hkD
                    have Hk2 := Lib.hid hkD
                    clear hkD hD
                    refine wpAny_take (i := 0) (v := ?vhd1) rfl (by kernel_rfl) (by kernel_rfl) (by kernel_rfl) (fun _ _ _ h => h) (Or.inl ⟨by kernel_rfl, ?hhd1⟩) ?rhd1
                    case hhd1 => (intro w; go_simp; first | done | (with_reducible rfl))
                    refine wpAny_take (i := 1) (v := ?vhd2) rfl (by kernel_rfl) (by kernel_rfl) (by kernel_rfl) (fun _ _ _ h => h) (Or.inl ⟨by kernel_rfl, ?hhd2⟩) ?rhd2
                    case hhd2 => (intro w; go_simp; first | done | (with_reducible rfl))
                    refine wpAny_take (i := 2) (v := ?vhd3) rfl (by kernel_rfl) (by kernel_rfl) (by kernel_rfl) (fun _ _ _ h => h) (Or.inl ⟨by kernel_rfl, ?hhd3⟩) ?rhd3
                    case hhd3 => (intro w; go_simp; first | done | (with_reducible rfl))
                    refine wpAny_take (i := 3) (v := ?vhd4) rfl (by kernel_rfl) (by kernel_rfl) (by kernel_rfl) (fun _ _ _ h => h) (Or.inl ⟨by kernel_rfl, ?hhd4⟩) ?rhd4
                    case hhd4 => (intro w; go_simp; first | done | (with_reducible rfl))
                    refine wpAny_take (i := 4) (v := ?vhd5) rfl (by kernel_rfl) (by kernel_rfl) (by kernel_rfl) (fun _ _ _ h => h) (Or.inl ⟨by kernel_rfl, ?hhd5⟩) ?rhd5
                    case hhd5 => (intro w; go_simp; first | done | (with_reducible rfl))
                    refine wpAny_take (i := 5) (v := ?vhd6) rfl (by kernel_rfl) (by kernel_rfl) (by kernel_rfl) (fun _ _ _ h => h) (Or.inl ⟨by kernel_rfl, ?hhd6⟩) ?rhd6
                    case hhd6 => (intro w; go_simp; first | done | (with_reducible rfl))
                    refine wpAny_take (i := 6) (v := ?vhd7) rfl (by kernel_rfl) (by kernel_rfl) (by kernel_rfl) (fun _ _ _ h => h) (Or.inl ⟨by kernel_rfl, ?hhd7⟩) ?rhd7
                    case hhd7 => (intro w; go_simp; first | done | (with_reducible rfl))
                    refine wpAny_take (i := 7) (v := ?vhd8) rfl (by kernel_rfl) (by kernel_rfl) (by kernel_rfl) (fun _ _ _ h => h) (Or.inl ⟨by kernel_rfl, ?hhd8⟩) ?rhd8
                    case hhd8 => (intro w; go_simp; first | done | (with_reducible rfl))
                    refine wpAny_ready (rs := [8]) (by kernel_rfl) (by simp) ?_
                    refine AllReady.cons rfl (fun K hK => ?_) AllReady.nil
                    go_simp
                    with_reducible refine (h32 _).mono ?_
                    rintro e w5 ⟨rfl, rfl⟩
                    refine hK _ _ ?_
                    clear hK K
                    refine wpAny_take (i := 9) (v := ?vhd9) rfl (by kernel_rfl) (by kernel_rfl) (by kernel_rfl) (fun _ _ _ h => h) (Or.inl ⟨by kernel_rfl, ?hhd9⟩) ?rhd9
                    case hhd9 => (intro w; go_simp; first | done | (with_reducible rfl))
                    refine wpAny_take (i := 10) (v := ?vhd10) rfl (by kernel_rfl) (by kernel_rfl) (by kernel_rfl) (fun _ _ _ h => h) (Or.inl ⟨by kernel_rfl, ?hhd10⟩) ?rhd10
                    case hhd10 => (intro w; go_simp; first | done | (with_reducible rfl))
                    refine wpAny_ready (rs := [11]) (by kernel_rfl) (by simp) ?_
                    refine AllReady.cons rfl (fun K hK => ?_) AllReady.nil
                    go_simp
                    with_reducible refine (h80 _).mono ?_
                    rintro e w6 ⟨rfl, rfl⟩
                    refine hK _ _ ?_
                    clear hK K
                    refine wpAny_take (i := 12) (v := ?vhd11) rfl (by kernel_rfl) (by kernel_rfl) (by kernel_rfl) (fun _ _ _ h => h) (Or.inl ⟨by kernel_rfl, ?hhd11⟩) ?rhd11
                    case hhd11 => (intro w; go_simp; first | done | (with_reducible rfl))
                    refine wpAny_ready (rs := [13]) (by kernel_rfl) (by simp) ?_
                    refine AllReady.cons rfl (fun K hK => ?_) AllReady.nil
                    go_simp
                    refine hK _ _ ?_
                    clear hK K
                    refine wpAny_ready (rs := [14]) (by kernel_rfl) (by simp) ?_
                    refine AllReady.cons rfl (fun K hK => ?_) AllReady.nil
                    go_simp
                    refine hK _ _ ?_
                    clear hK K
                    refine wpAny_done (by kernel_rfl) ?_ _
                    try go_simp
                    obtain ⟨V, hV⟩ : ∃ V, V = (D.setCell ⟨w.heap.size, 0, none⟩ (S (l.take j))).setCell ⟨w.heap.size, 1, none⟩ (S ([] : H.T)) := ⟨_, rfl⟩
                    have hbe : Below w.heap.size w V := by rw [hV]; exact (HbD.out.setCell (p := ⟨w.heap.size, 0, none⟩) (Nat.le_refl _) _).setCell (p := ⟨w.heap.size, 1, none⟩) (Nat.le_refl _) _
                    obtain ⟨k1, k2⟩ := cell_put2 Hk2.out (S (l.take j)) (S ([] : H.T))
                    rw [← hV] at k1 k2
                    go_wp2
                    rw [← hV]
                    clear hV
                    refine bodyPost_ret (by simp [results, Tryz.results94, go_sem, k1, k2]; try rfl) rfl ?_
                    exact ⟨⟨⟨l.take j, ([] : H.T)⟩, true, rfl, by rw [HH.out]; rfl, by rw [List.length_take]; omega, by show ([] : H.T).length ≤ _; omega⟩, hbe⟩
              · have hp2 : 0 < v2.length := List.length_pos_iff.2 hvn2
                have hne2 : v2.isEmpty = false := by cases v2 with | nil => exact absurd rfl hvn2 | cons => rfl
                obtain ⟨d, hd⟩ : ∃ d : Nat, (v2[v2.length - 1]'(by omega)).toNat = d := ⟨_, rfl⟩
                have hd1 : d < 256 := by rw [← hd]; exact (v2[v2.length - 1]'(by omega)).toNat_lt
                obtain ⟨y, hy⟩ : ∃ y : Int, ((v2.length : Nat) : Int) = y := ⟨_, rfl⟩
                have i3 : ∀ W, (Instr.index 9 (S v2) (.int .i64 (y - 1))).run Tryz.prog W = .ok (.int .u8 (d : Int)) W := fun W => by
                  have := index_str v2 (v2.length - 1) (by omega) (d : Int) (by rw [hd]) W
                  rwa [show (((v2.length - 1 : Nat)) : Int) = y - 1 from by omega] at this
                have hwy : IntKind.i64.wrap (y - 1) = y - 1 := by rw [IntKind.wrap_i64]; omega
                have hb3 := fun W => csy (dblank W d hd1)
                cases hbl2 : H.blank d with
                | true =>
                  rw [hbl2] at hb3
                  have Ht2 := Lib.hid (show H.tr (v2.take (v2.length - 1)) = H.tr v1 from by rw [← Hve2.out, H.tr_yes v2 hp2 (by rw [hd, hbl2])])
                  have e4 : (⟨v2.toArray⟩ : ByteArray).extract 0 (y.toNat - 1) = ⟨(v2.take (v2.length - 1)).toArray⟩ := by rw [show y.toNat - 1 = v2.length - 1 from by omega]; exact ext_take v2 _
                  have g5 : (0 : Int) ≤ y - 1 := by omega
                  have g6 : y - 1 ≤ y := by omega
                  have g7 : (⟨v2.toArray⟩ : ByteArray).size = v2.length := S_size v2
                  have g8 : (⟨(v2.take (v2.length - 1)).toArray⟩ : ByteArray).size = v2.length - 1 := by rw [S_size, List.length_take]; omega
                  clear hd hbl2
                  go_wp2_with (refine (hb3 _).mono ?_; rintro e w1 ⟨rfl, rfl⟩)
                  go_roundw
                  case rel => exact ⟨v2.take (v2.length - 1), by first | rfl | (simp [e4]), by rw [List.length_take]; omega, Ht2.out, by first | rfl | trivial⟩
                  case measure =>
                    simp only [g7, g8]
                    omega
                | false =>
                  rw [hbl2] at hb3
                  have hv2 : H.tr (H.tl v0) = v2 := by rw [hv1', ← Hve2.out]; exact H.tr_no v2 hp2 (by rw [hd, hbl2])
                  clear hd hbl2
                  have HHd2 := HHd.out
                  rw [hv2] at HHd2
                  have Hvl := Lib.hid (show v2.length ≤ l.length from by have := Hv0l.out; omega)
                  have h32 := fun W => csy (dtoken W (l.take j) (by rw [List.length_take]; omega))
                  have h80 := fun W => csy (dvalue_is W v2 (by omega))
                  cases t1 : H.isOf (l.take j) H.tok with
                  | false =>
                    rw [t1] at h32 HHd2
                    have HH := Lib.hid HHd2
                    clear HHd2 h80
                    go_wp2_with (refine (hb3 _).mono ?_; rintro e w1 ⟨rfl, rfl⟩)
                    have hvl3 := Hvl.out
                    refine wp_region_any (by kernel_rfl) ?_
                    change wpAny _ _ _ _ _ _ _ X.drew
                    obtain ⟨D, hD⟩ : ∃ D, D = X.drew := ⟨_, rfl⟩
                    rw [← hD]
                    have hkD := HkD.out
                    rw [← hD] at hkD
                    have HbD := Lib.hid (HbD0.out)
                    rw [← hD] at HbD
                    obtain ⟨c0, c1⟩ := box2 hkD
                    obtain ⟨f0, f1⟩ := frz2 hkD
                    have lD := blk_lt hkD
                    have Hk2 := Lib.hid hkD
                    clear hkD hD
                    refine wpAny_take (i := 0) (v := ?vhe1) rfl (by kernel_rfl) (by kernel_rfl) (by kernel_rfl) (fun _ _ _ h => h) (Or.inl ⟨by kernel_rfl, ?hhe1⟩) ?rhe1
                    case hhe1 => (intro w; go_simp; first | done | (with_reducible rfl))
                    refine wpAny_take (i := 1) (v := ?vhe2) rfl (by kernel_rfl) (by kernel_rfl) (by kernel_rfl) (fun _ _ _ h => h) (Or.inl ⟨by kernel_rfl, ?hhe2⟩) ?rhe2
                    case hhe2 => (intro w; go_simp; first | done | (with_reducible rfl))
                    refine wpAny_take (i := 2) (v := ?vhe3) rfl (by kernel_rfl) (by kernel_rfl) (by kernel_rfl) (fun _ _ _ h => h) (Or.inl ⟨by kernel_rfl, ?hhe3⟩) ?rhe3
                    case hhe3 => (intro w; go_simp; first | done | (with_reducible rfl))
                    refine wpAny_take (i := 3) (v := ?vhe4) rfl (by kernel_rfl) (by kernel_rfl) (by kernel_rfl) (fun _ _ _ h => h) (Or.inl ⟨by kernel_rfl, ?hhe4⟩) ?rhe4
                    case hhe4 => (intro w; go_simp; first | done | (with_reducible rfl))
                    refine wpAny_take (i := 4) (v := ?vhe5) rfl (by kernel_rfl) (by kernel_rfl) (by kernel_rfl) (fun _ _ _ h => h) (Or.inl ⟨by kernel_rfl, ?hhe5⟩) ?rhe5
                    case hhe5 => (intro w; go_simp; first | done | (with_reducible rfl))
                    refine wpAny_take (i := 5) (v := ?vhe6) rfl (by kernel_rfl) (by kernel_rfl) (by kernel_rfl) (fun _ _ _ h => h) (Or.inl ⟨by kernel_rfl, ?hhe6⟩) ?rhe6
                    case hhe6 => (intro w; go_simp; first | done | (with_reducible rfl))
                    refine wpAny_take (i := 6) (v := ?vhe7) rfl (by kernel_rfl) (by kernel_rfl) (by kernel_rfl) (fun _ _ _ h => h) (Or.inl ⟨by kernel_rfl, ?hhe7⟩) ?rhe7
                    case hhe7 => (intro w; go_simp; first | done | (with_reducible rfl))
                    refine wpAny_take (i := 7) (v := ?vhe8) rfl (by kernel_rfl) (by kernel_rfl) (by kernel_rfl) (fun _ _ _ h => h) (Or.inl ⟨by kernel_rfl, ?hhe8⟩) ?rhe8
                    case hhe8 => (intro w; go_simp; first | done | (with_reducible rfl))
                    refine wpAny_ready (rs := [8]) (by kernel_rfl) (by simp) ?_
                    refine AllReady.cons rfl (fun K hK => ?_) AllReady.nil
                    go_simp
                    with_reducible refine (h32 _).mono ?_
                    rintro e w5 ⟨rfl, rfl⟩
                    refine hK _ _ ?_
                    clear hK K
                    refine wpAny_take (i := 9) (v := ?vhe9) rfl (by kernel_rfl) (by kernel_rfl) (by kernel_rfl) (fun _ _ _ h => h) (Or.inl ⟨by kernel_rfl, ?hhe9⟩) ?rhe9
                    case hhe9 => (intro w; go_simp; first | done | (with_reducible rfl))
                    refine wpAny_take (i := 10) (v := undef) rfl (by kernel_rfl) (by kernel_rfl) (by kernel_rfl) (fun _ _ _ h => h) (Or.inr ⟨by kernel_rfl, rfl⟩) ?_
                    refine wpAny_take (i := 11) (v := undef) rfl (by kernel_rfl) (by kernel_rfl) (by kernel_rfl) (fun _ _ _ h => h) (Or.inr ⟨by kernel_rfl, rfl⟩) ?_
                    refine wpAny_take (i := 12) (v := ?vhe12) rfl (by kernel_rfl) (by kernel_rfl) (by kernel_rfl) (fun _ _ _ h => h) (Or.inl ⟨by kernel_rfl, ?hhe12⟩) ?rhe12
                    case hhe12 => (intro w; go_simp; first | done | (with_reducible rfl))
                    refine wpAny_ready (rs := [13]) (by kernel_rfl) (by simp) ?_
                    refine AllReady.cons rfl (fun K hK => ?_) AllReady.nil
                    go_simp
                    refine hK _ _ ?_
                    clear hK K
                    refine wpAny_ready (rs := [14]) (by kernel_rfl) (by simp) ?_
                    refine AllReady.cons rfl (fun K hK => ?_) AllReady.nil
                    go_simp
                    refine hK _ _ ?_
                    clear hK K
                    refine wpAny_done (by kernel_rfl) ?_ _
                    try go_simp
                    obtain ⟨V, hV⟩ : ∃ V, V = (D.setCell ⟨w.heap.size, 0, none⟩ (S (l.take j))).setCell ⟨w.heap.size, 1, none⟩ (S v2) := ⟨_, rfl⟩
                    have hbe : Below w.heap.size w V := by rw [hV]; exact (HbD.out.setCell (p := ⟨w.heap.size, 0, none⟩) (Nat.le_refl _) _).setCell (p := ⟨w.heap.size, 1, none⟩) (Nat.le_refl _) _
                    obtain ⟨k1, k2⟩ := cell_put2 Hk2.out (S (l.take j)) (S v2)
                    rw [← hV] at k1 k2
                    go_wp2
                    rw [← hV]
                    clear hV
                    refine bodyPost_ret (by simp [results, Tryz.results94, go_sem, k1, k2]; try rfl) rfl ?_
                    exact ⟨⟨⟨l.take j, v2⟩, false, rfl, by rw [HH.out]; rfl, by rw [List.length_take]; omega, by show v2.length ≤ _; omega⟩, hbe⟩
                  | true =>
                    rw [t1] at h32 HHd2
                    cases t2 : H.isValue v2 with
                    | false =>
                      rw [t2] at h80 HHd2
                      have HH := Lib.hid HHd2
                      clear HHd2
                      go_wp2_with (refine (hb3 _).mono ?_; rintro e w1 ⟨rfl, rfl⟩)
                      have hvl3 := Hvl.out
                      refine wp_region_any (by kernel_rfl) ?_
                      change wpAny _ _ _ _ _ _ _ X.drew
                      obtain ⟨D, hD⟩ : ∃ D, D = X.drew := ⟨_, rfl⟩
                      rw [← hD]
                      have hkD := HkD.out
                      rw [← hD] at hkD
                      have HbD := Lib.hid (HbD0.out)
                      rw [← hD] at HbD
                      obtain ⟨c0, c1⟩ := box2 hkD
                      obtain ⟨f0, f1⟩ := frz2 hkD
                      have lD := blk_lt hkD
                      have Hk2 := Lib.hid hkD
                      clear hkD hD
                      refine wpAny_take (i := 0) (v := ?vhf1) rfl (by kernel_rfl) (by kernel_rfl) (by kernel_rfl) (fun _ _ _ h => h) (Or.inl ⟨by kernel_rfl, ?hhf1⟩) ?rhf1
                      case hhf1 => (intro w; go_simp; first | done | (with_reducible rfl))
                      refine wpAny_take (i := 1) (v := ?vhf2) rfl (by kernel_rfl) (by kernel_rfl) (by kernel_rfl) (fun _ _ _ h => h) (Or.inl ⟨by kernel_rfl, ?hhf2⟩) ?rhf2
                      case hhf2 => (intro w; go_simp; first | done | (with_reducible rfl))
                      refine wpAny_take (i := 2) (v := ?vhf3) rfl (by kernel_rfl) (by kernel_rfl) (by kernel_rfl) (fun _ _ _ h => h) (Or.inl ⟨by kernel_rfl, ?hhf3⟩) ?rhf3
                      case hhf3 => (intro w; go_simp; first | done | (with_reducible rfl))
                      refine wpAny_take (i := 3) (v := ?vhf4) rfl (by kernel_rfl) (by kernel_rfl) (by kernel_rfl) (fun _ _ _ h => h) (Or.inl ⟨by kernel_rfl, ?hhf4⟩) ?rhf4
                      case hhf4 => (intro w; go_simp; first | done | (with_reducible rfl))
                      refine wpAny_take (i := 4) (v := ?vhf5) rfl (by kernel_rfl) (by kernel_rfl) (by kernel_rfl) (fun _ _ _ h => h) (Or.inl ⟨by kernel_rfl, ?hhf5⟩) ?rhf5
                      case hhf5 => (intro w; go_simp; first | done | (with_reducible rfl))
                      refine wpAny_take (i := 5) (v := ?vhf6) rfl (by kernel_rfl) (by kernel_rfl) (by kernel_rfl) (fun _ _ _ h => h) (Or.inl ⟨by kernel_rfl, ?hhf6⟩) ?rhf6
                      case hhf6 => (intro w; go_simp; first | done | (with_reducible rfl))
                      refine wpAny_take (i := 6) (v := ?vhf7) rfl (by kernel_rfl) (by kernel_rfl) (by kernel_rfl) (fun _ _ _ h => h) (Or.inl ⟨by kernel_rfl, ?hhf7⟩) ?rhf7
                      case hhf7 => (intro w; go_simp; first | done | (with_reducible rfl))
                      refine wpAny_take (i := 7) (v := ?vhf8) rfl (by kernel_rfl) (by kernel_rfl) (by kernel_rfl) (fun _ _ _ h => h) (Or.inl ⟨by kernel_rfl, ?hhf8⟩) ?rhf8
                      case hhf8 => (intro w; go_simp; first | done | (with_reducible rfl))
                      refine wpAny_ready (rs := [8]) (by kernel_rfl) (by simp) ?_
                      refine AllReady.cons rfl (fun K hK => ?_) AllReady.nil
                      go_simp
                      with_reducible refine (h32 _).mono ?_
                      rintro e w5 ⟨rfl, rfl⟩
                      refine hK _ _ ?_
                      clear hK K
                      refine wpAny_take (i := 9) (v := ?vhf9) rfl (by kernel_rfl) (by kernel_rfl) (by kernel_rfl) (fun _ _ _ h => h) (Or.inl ⟨by kernel_rfl, ?hhf9⟩) ?rhf9
                      case hhf9 => (intro w; go_simp; first | done | (with_reducible rfl))
                      refine wpAny_take (i := 10) (v := ?vhf10) rfl (by kernel_rfl) (by kernel_rfl) (by kernel_rfl) (fun _ _ _ h => h) (Or.inl ⟨by kernel_rfl, ?hhf10⟩) ?rhf10
                      case hhf10 => (intro w; go_simp; first | done | (with_reducible rfl))
                      refine wpAny_ready (rs := [11]) (by kernel_rfl) (by simp) ?_
                      refine AllReady.cons rfl (fun K hK => ?_) AllReady.nil
                      go_simp
                      with_reducible refine (h80 _).mono ?_
                      rintro e w6 ⟨rfl, rfl⟩
                      refine hK _ _ ?_
                      clear hK K
                      refine wpAny_take (i := 12) (v := ?vhf11) rfl (by kernel_rfl) (by kernel_rfl) (by kernel_rfl) (fun _ _ _ h => h) (Or.inl ⟨by kernel_rfl, ?hhf11⟩) ?rhf11
                      case hhf11 => (intro w; go_simp; first | done | (with_reducible rfl))
                      refine wpAny_ready (rs := [13]) (by kernel_rfl) (by simp) ?_
                      refine AllReady.cons rfl (fun K hK => ?_) AllReady.nil
                      go_simp
                      refine hK _ _ ?_
                      clear hK K
                      refine wpAny_ready (rs := [14]) (by kernel_rfl) (by simp) ?_
                      refine AllReady.cons rfl (fun K hK => ?_) AllReady.nil
                      go_simp
                      refine hK _ _ ?_
                      clear hK K
                      refine wpAny_done (by kernel_rfl) ?_ _
                      try go_simp
                      obtain ⟨V, hV⟩ : ∃ V, V = (D.setCell ⟨w.heap.size, 0, none⟩ (S (l.take j))).setCell ⟨w.heap.size, 1, none⟩ (S v2) := ⟨_, rfl⟩
                      have hbe : Below w.heap.size w V := by rw [hV]; exact (HbD.out.setCell (p := ⟨w.heap.size, 0, none⟩) (Nat.le_refl _) _).setCell (p := ⟨w.heap.size, 1, none⟩) (Nat.le_refl _) _
                      obtain ⟨k1, k2⟩ := cell_put2 Hk2.out (S (l.take j)) (S v2)
                      rw [← hV] at k1 k2
                      go_wp2
                      rw [← hV]
                      clear hV
                      refine bodyPost_ret (by simp [results, Tryz.results94, go_sem, k1, k2]; try rfl) rfl ?_
                      exact ⟨⟨⟨l.take j, v2⟩, false, rfl, by rw [HH.out]; rfl, by rw [List.length_take]; omega, by show v2.length ≤ _; omega⟩, hbe⟩
                    | true =>
                      rw [t2] at h80 HHd2
                      have HH := Lib.hid HHd2
                      clear HHd2
                      go_wp2_with (refine (hb3 _).mono ?_; rintro e w1 ⟨rfl, rfl⟩)
                      have hvl3 := Hvl.out
                      refine wp_region_any (by kernel_rfl) ?_
                      change wpAny _ _ _ _ _ _ _ X.drew
                      obtain ⟨D, hD⟩ : ∃ D, D = X.drew := ⟨_, rfl⟩
                      rw [← hD]
                      have hkD := HkD.out
                      rw [← hD] at hkD
                      have HbD := Lib.hid (HbD0.out)
                      rw [← hD] at HbD
                      obtain ⟨c0, c1⟩ := box2 hkD
                      obtain ⟨f0, f1⟩ := frz2 hkD
                      have lD := blk_lt hkD
                      have Hk2 := Lib.hid hkD
                      clear hkD hD
                      refine wpAny_take (i := 0) (v := ?vhg1) rfl (by kernel_rfl) (by kernel_rfl) (by kernel_rfl) (fun _ _ _ h => h) (Or.inl ⟨by kernel_rfl, ?hhg1⟩) ?rhg1
                      case hhg1 => (intro w; go_simp; first | done | (with_reducible rfl))
                      refine wpAny_take (i := 1) (v := ?vhg2) rfl (by kernel_rfl) (by kernel_rfl) (by kernel_rfl) (fun _ _ _ h => h) (Or.inl ⟨by kernel_rfl, ?hhg2⟩) ?rhg2
                      case hhg2 => (intro w; go_simp; first | done | (with_reducible rfl))
                      refine wpAny_take (i := 2) (v := ?vhg3) rfl (by kernel_rfl) (by kernel_rfl) (by kernel_rfl) (fun _ _ _ h => h) (Or.inl ⟨by kernel_rfl, ?hhg3⟩) ?rhg3
                      case hhg3 => (intro w; go_simp; first | done | (with_reducible rfl))
                      refine wpAny_take (i := 3) (v := ?vhg4) rfl (by kernel_rfl) (by kernel_rfl) (by kernel_rfl) (fun _ _ _ h => h) (Or.inl ⟨by kernel_rfl, ?hhg4⟩) ?rhg4
                      case hhg4 => (intro w; go_simp; first | done | (with_reducible rfl))
                      refine wpAny_take (i := 4) (v := ?vhg5) rfl (by kernel_rfl) (by kernel_rfl) (by kernel_rfl) (fun _ _ _ h => h) (Or.inl ⟨by kernel_rfl, ?hhg5⟩) ?rhg5
                      case hhg5 => (intro w; go_simp; first | done | (with_reducible rfl))
                      refine wpAny_take (i := 5) (v := ?vhg6) rfl (by kernel_rfl) (by kernel_rfl) (by kernel_rfl) (fun _ _ _ h => h) (Or.inl ⟨by kernel_rfl, ?hhg6⟩) ?rhg6
                      case hhg6 => (intro w; go_simp; first | done | (with_reducible rfl))
                      refine wpAny_take (i := 6) (v := ?vhg7) rfl (by kernel_rfl) (by kernel_rfl) (by kernel_rfl) (fun _ _ _ h => h) (Or.inl ⟨by kernel_rfl, ?hhg7⟩) ?rhg7
                      case hhg7 => (intro w; go_simp; first | done | (with_reducible rfl))
                      refine wpAny_take (i := 7) (v := ?vhg8) rfl (by kernel_rfl) (by kernel_rfl) (by kernel_rfl) (fun _ _ _ h => h) (Or.inl ⟨by kernel_rfl, ?hhg8⟩) ?rhg8
                      case hhg8 => (intro w; go_simp; first | done | (with_reducible rfl))
                      refine wpAny_ready (rs := [8]) (by kernel_rfl) (by simp) ?_
                      refine AllReady.cons rfl (fun K hK => ?_) AllReady.nil
                      go_simp
                      with_reducible refine (h32 _).mono ?_
                      rintro e w5 ⟨rfl, rfl⟩
                      refine hK _ _ ?_
                      clear hK K
                      refine wpAny_take (i := 9) (v := ?vhg9) rfl (by kernel_rfl) (by kernel_rfl) (by kernel_rfl) (fun _ _ _ h => h) (Or.inl ⟨by kernel_rfl, ?hhg9⟩) ?rhg9
                      case hhg9 => (intro w; go_simp; first | done | (with_reducible rfl))
                      refine wpAny_take (i := 10) (v := ?vhg10) rfl (by kernel_rfl) (by kernel_rfl) (by kernel_rfl) (fun _ _ _ h => h) (Or.inl ⟨by kernel_rfl, ?hhg10⟩) ?rhg10
                      case hhg10 => (intro w; go_simp; first | done | (with_reducible rfl))
                      refine wpAny_ready (rs := [11]) (by kernel_rfl) (by simp) ?_
                      refine AllReady.cons rfl (fun K hK => ?_) AllReady.nil
                      go_simp
                      with_reducible refine (h80 _).mono ?_
                      rintro e w6 ⟨rfl, rfl⟩
                      refine hK _ _ ?_
                      clear hK K
                      refine wpAny_take (i := 12) (v := ?vhg11) rfl (by kernel_rfl) (by kernel_rfl) (by kernel_rfl) (fun _ _ _ h => h) (Or.inl ⟨by kernel_rfl, ?hhg11⟩) ?rhg11
                      case hhg11 => (intro w; go_simp; first | done | (with_reducible rfl))
                      refine wpAny_ready (rs := [13]) (by kernel_rfl) (by simp) ?_
                      refine AllReady.cons rfl (fun K hK => ?_) AllReady.nil
                      go_simp
                      refine hK _ _ ?_
                      clear hK K
                      refine wpAny_ready (rs := [14]) (by kernel_rfl) (by simp) ?_
                      refine AllReady.cons rfl (fun K hK => ?_) AllReady.nil
                      go_simp
                      refine hK _ _ ?_
                      clear hK K
                      refine wpAny_done (by kernel_rfl) ?_ _
                      try go_simp
                      obtain ⟨V, hV⟩ : ∃ V, V = (D.setCell ⟨w.heap.size, 0, none⟩ (S (l.take j))).setCell ⟨w.heap.size, 1, none⟩ (S v2) := ⟨_, rfl⟩
                      have hbe : Below w.heap.size w V := by rw [hV]; exact (HbD.out.setCell (p := ⟨w.heap.size, 0, none⟩) (Nat.le_refl _) _).setCell (p := ⟨w.heap.size, 1, none⟩) (Nat.le_refl _) _
                      obtain ⟨k1, k2⟩ := cell_put2 Hk2.out (S (l.take j)) (S v2)
                      rw [← hV] at k1 k2
                      go_wp2
                      rw [← hV]
                      clear hV
                      refine bodyPost_ret (by simp [results, Tryz.results94, go_sem, k1, k2]; try rfl) rfl ?_
                      exact ⟨⟨⟨l.take j, v2⟩, true, rfl, by rw [HH.out]; rfl, by rw [List.length_take]; omega, by show v2.length ≤ _; omega⟩, hbe⟩
          · obtain ⟨a, t, rfl⟩ : ∃ a t, v = a :: t := by cases v with | nil => exact absurd rfl hvn | cons a t => exact ⟨a, t, rfl⟩
            obtain ⟨c, hc⟩ : ∃ c : Nat, a.toNat = c := ⟨_, rfl⟩
            have hc1 : c < 256 := by rw [← hc]; exact a.toNat_lt
            have i2 : ∀ W, (Instr.index 9 (S (a :: t)) (.int .i64 0)).run Tryz.prog W = .ok (.int .u8 (c : Int)) W := fun W => index_str (a :: t) 0 (by simp) (c : Int) (by rw [← hc]; rfl) W
            have hb := fun W => csy (dblank W c hc1)
            cases hbl : H.blank c with
            | true =>
              rw [hbl] at hb
              have Ht := Lib.hid (show H.tl t = H.tl v0 from by rw [← Hve.out, H.tl_yes a t (by rw [hc, hbl])])
              have e3 : (⟨(a :: t).toArray⟩ : ByteArray).extract 1 (t.length + 1) = ⟨t.toArray⟩ := by have := ext_one (a :: t); simpa using this
              have g2 : (⟨(a :: t).toArray⟩ : ByteArray).size = t.length + 1 := by rw [S_size]; rfl
              have g3 : (⟨t.toArray⟩ : ByteArray).size = t.length := S_size t
              have htl : t.length + 1 ≤ v0.length := by simpa using hvl
              have g4 : (1 : Int) ≤ (t.length : Int) + 1 := by omega
              clear hc hbl hvn hvl
              go_wp2_with (refine (hb _).mono ?_; rintro e w1 ⟨rfl, rfl⟩)
              go_roundw
              case rel => exact ⟨t, by first | rfl | (simp [e3]), by omega, Ht.out, by first | rfl | trivial⟩
              case measure =>
                simp only [g2, g3]
                omega
            | false =>
              rw [hbl] at hb
              have hv1 : H.tl v0 = a :: t := by rw [← Hve.out]; exact H.tl_no a t (by rw [hc, hbl])
              clear hc hbl hvn
              have Hb1 := Lib.hid hb
              clear hb
              have hb := Hb1.out
              obtain ⟨v1, hv1'⟩ : ∃ v1, H.tl v0 = v1 := ⟨_, rfl⟩
              go_wp2_with (refine (hb _).mono ?_; rintro e w1 ⟨rfl, rfl⟩)
              go_loopw [5] (fun u wr => ∃ v2 : H.T, u = S v2 ∧ v2.length ≤ v0.length ∧ H.tr v2 = H.tr v1 ∧ wr = X) (fun u _ => match u with | .string b => b.size | _ => 0)
              case atStart => exact ⟨a :: t, rfl, by omega, by rw [← hv1', hv1], rfl⟩
              case round =>
                obtain ⟨v2, rfl, hvl2, hve2, rfl⟩ := hrel
                have Hve2 := Lib.hid hve2
                clear hve2
                obtain ⟨X, rfl⟩ : ∃ X, X = wr := ⟨_, rfl⟩
                by_cases hvn2 : v2 = []
                · subst hvn2
                  have hv2 : H.tr (H.tl v0) = [] := by rw [hv1', ← Hve2.out]; rfl
                  have HHd2 := HHd.out
                  rw [hv2] at HHd2
                  have Hvl := Lib.hid (show ([] : H.T).length ≤ l.length from by have := Hv0l.out; omega)
                  have h32 := fun W => csy (dtoken W (l.take j) (by rw [List.length_take]; omega))
                  have h80 := fun W => csy (dvalue_is W ([] : H.T) (by omega))
                  cases t1 : H.isOf (l.take j) H.tok with
                  | false =>
                    rw [t1] at h32 HHd2
                    have HH := Lib.hid HHd2
                    clear HHd2 h80
                    go_wp2
                    have hvl3 := Hvl.out
                    refine wp_region_any (by kernel_rfl) ?_
                    change wpAny _ _ _ _ _ _ _ X.drew
                    obtain ⟨D, hD⟩ : ∃ D, D = X.drew := ⟨_, rfl⟩
                    rw [← hD]
                    have hkD := HkD.out
                    rw [← hD] at hkD
                    have HbD := Lib.hid (HbD0.out)
                    rw [← hD] at HbD
                    obtain ⟨c0, c1⟩ := box2 hkD
                    obtain ⟨f0, f1⟩ := frz2 hkD
                    have lD := blk_lt hkD
                    have Hk2 := Lib.hid hkD
                    clear hkD hD
                    refine wpAny_take (i := 0) (v := ?vhh1) rfl (by kernel_rfl) (by kernel_rfl) (by kernel_rfl) (fun _ _ _ h => h) (Or.inl ⟨by kernel_rfl, ?hhh1⟩) ?rhh1
                    case hhh1 => (intro w; go_simp; first | done | (with_reducible rfl))
                    refine wpAny_take (i := 1) (v := ?vhh2) rfl (by kernel_rfl) (by kernel_rfl) (by kernel_rfl) (fun _ _ _ h => h) (Or.inl ⟨by kernel_rfl, ?hhh2⟩) ?rhh2
                    case hhh2 => (intro w; go_simp; first | done | (with_reducible rfl))
                    refine wpAny_take (i := 2) (v := ?vhh3) rfl (by kernel_rfl) (by kernel_rfl) (by kernel_rfl) (fun _ _ _ h => h) (Or.inl ⟨by kernel_rfl, ?hhh3⟩) ?rhh3
                    case hhh3 => (intro w; go_simp; first | done | (with_reducible rfl))
                    refine wpAny_take (i := 3) (v := ?vhh4) rfl (by kernel_rfl) (by kernel_rfl) (by kernel_rfl) (fun _ _ _ h => h) (Or.inl ⟨by kernel_rfl, ?hhh4⟩) ?rhh4
                    case hhh4 => (intro w; go_simp; first | done | (with_reducible rfl))
                    refine wpAny_take (i := 4) (v := ?vhh5) rfl (by kernel_rfl) (by kernel_rfl) (by kernel_rfl) (fun _ _ _ h => h) (Or.inl ⟨by kernel_rfl, ?hhh5⟩) ?rhh5
                    case hhh5 => (intro w; go_simp; first | done | (with_reducible rfl))
                    refine wpAny_take (i := 5) (v := ?vhh6) rfl (by kernel_rfl) (by kernel_rfl) (by kernel_rfl) (fun _ _ _ h => h) (Or.inl ⟨by kernel_rfl, ?hhh6⟩) ?rhh6
                    case hhh6 => (intro w; go_simp; first | done | (with_reducible rfl))
                    refine wpAny_take (i := 6) (v := ?vhh7) rfl (by kernel_rfl) (by kernel_rfl) (by kernel_rfl) (fun _ _ _ h => h) (Or.inl ⟨by kernel_rfl, ?hhh7⟩) ?rhh7
                    case hhh7 => (intro w; go_simp; first | done | (with_reducible rfl))
                    refine wpAny_take (i := 7) (v := ?vhh8) rfl (by kernel_rfl) (by kernel_rfl) (by kernel_rfl) (fun _ _ _ h => h) (Or.inl ⟨by kernel_rfl, ?hhh8⟩) ?rhh8
                    case hhh8 => (intro w; go_simp; first | done | (with_reducible rfl))
                    refine wpAny_ready (rs := [8]) (by kernel_rfl) (by simp) ?_
                    refine AllReady.cons rfl (fun K hK => ?_) AllReady.nil
                    go_simp
                    with_reducible refine (h32 _).mono ?_
                    rintro e w5 ⟨rfl, rfl⟩
                    refine hK _ _ ?_
                    clear hK K
                    refine wpAny_take (i := 9) (v := ?vhh9) rfl (by kernel_rfl) (by kernel_rfl) (by kernel_rfl) (fun _ _ _ h => h) (Or.inl ⟨by kernel_rfl, ?hhh9⟩) ?rhh9
                    case hhh9 => (intro w; go_simp; first | done | (with_reducible rfl))
                    refine wpAny_take (i := 10) (v := undef) rfl (by kernel_rfl) (by kernel_rfl) (by kernel_rfl) (fun _ _ _ h => h) (Or.inr ⟨by kernel_rfl, rfl⟩) ?_
                    refine wpAny_take (i := 11) (v := undef) rfl (by kernel_rfl) (by kernel_rfl) (by kernel_rfl) (fun _ _ _ h => h) (Or.inr ⟨by kernel_rfl, rfl⟩) ?_
                    refine wpAny_take (i := 12) (v := ?vhh12) rfl (by kernel_rfl) (by kernel_rfl) (by kernel_rfl) (fun _ _ _ h => h) (Or.inl ⟨by kernel_rfl, ?hhh12⟩) ?rhh12
                    case hhh12 => (intro w; go_simp; first | done | (with_reducible rfl))
                    refine wpAny_ready (rs := [13]) (by kernel_rfl) (by simp) ?_
                    refine AllReady.cons rfl (fun K hK => ?_) AllReady.nil
                    go_simp
                    refine hK _ _ ?_
                    clear hK K
                    refine wpAny_ready (rs := [14]) (by kernel_rfl) (by simp) ?_
                    refine AllReady.cons rfl (fun K hK => ?_) AllReady.nil
                    go_simp
                    refine hK _ _ ?_
                    clear hK K
                    refine wpAny_done (by kernel_rfl) ?_ _
                    try go_simp
                    obtain ⟨V, hV⟩ : ∃ V, V = (D.setCell ⟨w.heap.size, 0, none⟩ (S (l.take j))).setCell ⟨w.heap.size, 1, none⟩ (S ([] : H.T)) := ⟨_, rfl⟩
                    have hbe : Below w.heap.size w V := by rw [hV]; exact (HbD.out.setCell (p := ⟨w.heap.size, 0, none⟩) (Nat.le_refl _) _).setCell (p := ⟨w.heap.size, 1, none⟩) (Nat.le_refl _) _
                    obtain ⟨k1, k2⟩ := cell_put2 Hk2.out (S (l.take j)) (S ([] : H.T))
                    rw [← hV] at k1 k2
                    go_wp2
                    rw [← hV]
                    clear hV
                    refine bodyPost_ret (by simp [results, Tryz.results94, go_sem, k1, k2]; try rfl) rfl ?_
                    exact ⟨⟨⟨l.take j, ([] : H.T)⟩, false, rfl, by rw [HH.out]; rfl, by rw [List.length_take]; omega, by show ([] : H.T).length ≤ _; omega⟩, hbe⟩
                  | true =>
                    rw [t1] at h32 HHd2
                    cases t2 : H.isValue ([] : H.T) with
                    | false =>
                      rw [t2] at h80 HHd2
                      have HH := Lib.hid HHd2
                      clear HHd2
                      go_wp2
                      have hvl3 := Hvl.out
                      refine wp_region_any (by kernel_rfl) ?_
                      change wpAny _ _ _ _ _ _ _ X.drew
                      obtain ⟨D, hD⟩ : ∃ D, D = X.drew := ⟨_, rfl⟩
                      rw [← hD]
                      have hkD := HkD.out
                      rw [← hD] at hkD
                      have HbD := Lib.hid (HbD0.out)
                      rw [← hD] at HbD
                      obtain ⟨c0, c1⟩ := box2 hkD
                      obtain ⟨f0, f1⟩ := frz2 hkD
                      have lD := blk_lt hkD
                      have Hk2 := Lib.hid hkD
                      clear hkD hD
                      refine wpAny_take (i := 0) (v := ?vhi1) rfl (by kernel_rfl) (by kernel_rfl) (by kernel_rfl) (fun _ _ _ h => h) (Or.inl ⟨by kernel_rfl, ?hhi1⟩) ?rhi1
                      case hhi1 => (intro w; go_simp; first | done | (with_reducible rfl))
                      refine wpAny_take (i := 1) (v := ?vhi2) rfl (by kernel_rfl) (by kernel_rfl) (by kernel_rfl) (fun _ _ _ h => h) (Or.inl ⟨by kernel_rfl, ?hhi2⟩) ?rhi2
                      case hhi2 => (intro w; go_simp; first | done | (with_reducible rfl))
                      refine wpAny_take (i := 2) (v := ?vhi3) rfl (by kernel_rfl) (by kernel_rfl) (by kernel_rfl) (fun _ _ _ h => h) (Or.inl ⟨by kernel_rfl, ?hhi3⟩) ?rhi3
                      case hhi3 => (intro w; go_simp; first | done | (with_reducible rfl))
                      refine wpAny_take (i := 3) (v := ?vhi4) rfl (by kernel_rfl) (by kernel_rfl) (by kernel_rfl) (fun _ _ _ h => h) (Or.inl ⟨by kernel_rfl, ?hhi4⟩) ?rhi4
                      case hhi4 => (intro w; go_simp; first | done | (with_reducible rfl))
                      refine wpAny_take (i := 4) (v := ?vhi5) rfl (by kernel_rfl) (by kernel_rfl) (by kernel_rfl) (fun _ _ _ h => h) (Or.inl ⟨by kernel_rfl, ?hhi5⟩) ?rhi5
                      case hhi5 => (intro w; go_simp; first | done | (with_reducible rfl))
                      refine wpAny_take (i := 5) (v := ?vhi6) rfl (by kernel_rfl) (by kernel_rfl) (by kernel_rfl) (fun _ _ _ h => h) (Or.inl ⟨by kernel_rfl, ?hhi6⟩) ?rhi6
                      case hhi6 => (intro w; go_simp; first | done | (with_reducible rfl))
                      refine wpAny_take (i := 6) (v := ?vhi7) rfl (by kernel_rfl) (by kernel_rfl) (by kernel_rfl) (fun _ _ _ h => h) (Or.inl ⟨by kernel_rfl, ?hhi7⟩) ?rhi7
                      case hhi7 => (intro w; go_simp; first | done | (with_reducible rfl))
                      refine wpAny_take (i := 7) (v := ?vhi8) rfl (by kernel_rfl) (by kernel_rfl) (by kernel_rfl) (fun _ _ _ h => h) (Or.inl ⟨by kernel_rfl, ?hhi8⟩) ?rhi8
                      case hhi8 => (intro w; go_simp; first | done | (with_reducible rfl))
                      refine wpAny_ready (rs := [8]) (by kernel_rfl) (by simp) ?_
                      refine AllReady.cons rfl (fun K hK => ?_) AllReady.nil
                      go_simp
                      with_reducible refine (h32 _).mono ?_
                      rintro e w5 ⟨rfl, rfl⟩
                      refine hK _ _ ?_
                      clear hK K
                      refine wpAny_take (i := 9) (v := ?vhi9) rfl (by kernel_rfl) (by kernel_rfl) (by kernel_rfl) (fun _ _ _ h => h) (Or.inl ⟨by kernel_rfl, ?hhi9⟩) ?rhi9
                      case hhi9 => (intro w; go_simp; first | done | (with_reducible rfl))
                      refine wpAny_take (i := 10) (v := ?vhi10) rfl (by kernel_rfl) (by kernel_rfl) (by kernel_rfl) (fun _ _ _ h => h) (Or.inl ⟨by kernel_rfl, ?hhi10⟩) ?rhi10
                      case hhi10 => (intro w; go_simp; first | done | (with_reducible rfl))
                      refine wpAny_ready (rs := [11]) (by kernel_rfl) (by simp) ?_
                      refine AllReady.cons rfl (fun K hK => ?_) AllReady.nil
                      go_simp
                      with_reducible refine (h80 _).mono ?_
                      rintro e w6 ⟨rfl, rfl⟩
                      refine hK _ _ ?_
                      clear hK K
                      refine wpAny_take (i := 12) (v := ?vhi11) rfl (by kernel_rfl) (by kernel_rfl) (by kernel_rfl) (fun _ _ _ h => h) (Or.inl ⟨by kernel_rfl, ?hhi11⟩) ?rhi11
                      case hhi11 => (intro w; go_simp; first | done | (with_reducible rfl))
                      refine wpAny_ready (rs := [13]) (by kernel_rfl) (by simp) ?_
                      refine AllReady.cons rfl (fun K hK => ?_) AllReady.nil
                      go_simp
                      refine hK _ _ ?_
                      clear hK K
                      refine wpAny_ready (rs := [14]) (by kernel_rfl) (by simp) ?_
                      refine AllReady.cons rfl (fun K hK => ?_) AllReady.nil
                      go_simp
                      refine hK _ _ ?_
                      clear hK K
                      refine wpAny_done (by kernel_rfl) ?_ _
                      try go_simp
                      obtain ⟨V, hV⟩ : ∃ V, V = (D.setCell ⟨w.heap.size, 0, none⟩ (S (l.take j))).setCell ⟨w.heap.size, 1, none⟩ (S ([] : H.T)) := ⟨_, rfl⟩
                      have hbe : Below w.heap.size w V := by rw [hV]; exact (HbD.out.setCell (p := ⟨w.heap.size, 0, none⟩) (Nat.le_refl _) _).setCell (p := ⟨w.heap.size, 1, none⟩) (Nat.le_refl _) _
                      obtain ⟨k1, k2⟩ := cell_put2 Hk2.out (S (l.take j)) (S ([] : H.T))
                      rw [← hV] at k1 k2
                      go_wp2
                      rw [← hV]
                      clear hV
                      refine bodyPost_ret (by simp [results, Tryz.results94, go_sem, k1, k2]; try rfl) rfl ?_
                      exact ⟨⟨⟨l.take j, ([] : H.T)⟩, false, rfl, by rw [HH.out]; rfl, by rw [List.length_take]; omega, by show ([] : H.T).length ≤ _; omega⟩, hbe⟩
                    | true =>
                      rw [t2] at h80 HHd2
                      have HH := Lib.hid HHd2
                      clear HHd2
                      go_wp2
                      have hvl3 := Hvl.out
                      refine wp_region_any (by kernel_rfl) ?_
                      change wpAny _ _ _ _ _ _ _ X.drew
                      obtain ⟨D, hD⟩ : ∃ D, D = X.drew := ⟨_, rfl⟩
                      rw [← hD]
                      have hkD := HkD.out
                      rw [← hD] at hkD
                      have HbD := Lib.hid (HbD0.out)
                      rw [← hD] at HbD
                      obtain ⟨c0, c1⟩ := box2 hkD
                      obtain ⟨f0, f1⟩ := frz2 hkD
                      have lD := blk_lt hkD
                      have Hk2 := Lib.hid hkD
                      clear hkD hD
                      refine wpAny_take (i := 0) (v := ?vhj1) rfl (by kernel_rfl) (by kernel_rfl) (by kernel_rfl) (fun _ _ _ h => h) (Or.inl ⟨by kernel_rfl, ?hhj1⟩) ?rhj1
                      case hhj1 => (intro w; go_simp; first | done | (with_reducible rfl))
                      refine wpAny_take (i := 1) (v := ?vhj2) rfl (by kernel_rfl) (by kernel_rfl) (by kernel_rfl) (fun _ _ _ h => h) (Or.inl ⟨by kernel_rfl, ?hhj2⟩) ?rhj2
                      case hhj2 => (intro w; go_simp; first | done | (with_reducible rfl))
                      refine wpAny_take (i := 2) (v := ?vhj3) rfl (by kernel_rfl) (by kernel_rfl) (by kernel_rfl) (fun _ _ _ h => h) (Or.inl ⟨by kernel_rfl, ?hhj3⟩) ?rhj3
                      case hhj3 => (intro w; go_simp; first | done | (with_reducible rfl))
                      refine wpAny_take (i := 3) (v := ?vhj4) rfl (by kernel_rfl) (by kernel_rfl) (by kernel_rfl) (fun _ _ _ h => h) (Or.inl ⟨by kernel_rfl, ?hhj4⟩) ?rhj4
                      case hhj4 => (intro w; go_simp; first | done | (with_reducible rfl))
                      refine wpAny_take (i := 4) (v := ?vhj5) rfl (by kernel_rfl) (by kernel_rfl) (by kernel_rfl) (fun _ _ _ h => h) (Or.inl ⟨by kernel_rfl, ?hhj5⟩) ?rhj5
                      case hhj5 => (intro w; go_simp; first | done | (with_reducible rfl))
                      refine wpAny_take (i := 5) (v := ?vhj6) rfl (by kernel_rfl) (by kernel_rfl) (by kernel_rfl) (fun _ _ _ h => h) (Or.inl ⟨by kernel_rfl, ?hhj6⟩) ?rhj6
                      case hhj6 => (intro w; go_simp; first | done | (with_reducible rfl))
                      refine wpAny_take (i := 6) (v := ?vhj7) rfl (by kernel_rfl) (by kernel_rfl) (by kernel_rfl) (fun _ _ _ h => h) (Or.inl ⟨by kernel_rfl, ?hhj7⟩) ?rhj7
                      case hhj7 => (intro w; go_simp; first | done | (with_reducible rfl))
                      refine wpAny_take (i := 7) (v := ?vhj8) rfl (by kernel_rfl) (by kernel_rfl) (by kernel_rfl) (fun _ _ _ h => h) (Or.inl ⟨by kernel_rfl, ?hhj8⟩) ?rhj8
                      case hhj8 => (intro w; go_simp; first | done | (with_reducible rfl))
                      refine wpAny_ready (rs := [8]) (by kernel_rfl) (by simp) ?_
                      refine AllReady.cons rfl (fun K hK => ?_) AllReady.nil
                      go_simp
                      with_reducible refine (h32 _).mono ?_
                      rintro e w5 ⟨rfl, rfl⟩
                      refine hK _ _ ?_
                      clear hK K
                      refine wpAny_take (i := 9) (v := ?vhj9) rfl (by kernel_rfl) (by kernel_rfl) (by kernel_rfl) (fun _ _ _ h => h) (Or.inl ⟨by kernel_rfl, ?hhj9⟩) ?rhj9
                      case hhj9 => (intro w; go_simp; first | done | (with_reducible rfl))
                      refine wpAny_take (i := 10) (v := ?vhj10) rfl (by kernel_rfl) (by kernel_rfl) (by kernel_rfl) (fun _ _ _ h => h) (Or.inl ⟨by kernel_rfl, ?hhj10⟩) ?rhj10
                      case hhj10 => (intro w; go_simp; first | done | (with_reducible rfl))
                      refine wpAny_ready (rs := [11]) (by kernel_rfl) (by simp) ?_
                      refine AllReady.cons rfl (fun K hK => ?_) AllReady.nil
                      go_simp
                      with_reducible refine (h80 _).mono ?_
                      rintro e w6 ⟨rfl, rfl⟩
                      refine hK _ _ ?_
                      clear hK K
                      refine wpAny_take (i := 12) (v := ?vhj11) rfl (by kernel_rfl) (by kernel_rfl) (by kernel_rfl) (fun _ _ _ h => h) (Or.inl ⟨by kernel_rfl, ?hhj11⟩) ?rhj11
                      case hhj11 => (intro w; go_simp; first | done | (with_reducible rfl))
                      refine wpAny_ready (rs := [13]) (by kernel_rfl) (by simp) ?_
                      refine AllReady.cons rfl (fun K hK => ?_) AllReady.nil
                      go_simp
                      refine hK _ _ ?_
                      clear hK K
                      refine wpAny_ready (rs := [14]) (by kernel_rfl) (by simp) ?_
                      refine AllReady.cons rfl (fun K hK => ?_) AllReady.nil
                      go_simp
                      refine hK _ _ ?_
                      clear hK K
                      refine wpAny_done (by kernel_rfl) ?_ _
                      try go_simp
                      obtain ⟨V, hV⟩ : ∃ V, V = (D.setCell ⟨w.heap.size, 0, none⟩ (S (l.take j))).setCell ⟨w.heap.size, 1, none⟩ (S ([] : H.T)) := ⟨_, rfl⟩
                      have hbe : Below w.heap.size w V := by rw [hV]; exact (HbD.out.setCell (p := ⟨w.heap.size, 0, none⟩) (Nat.le_refl _) _).setCell (p := ⟨w.heap.size, 1, none⟩) (Nat.le_refl _) _
                      obtain ⟨k1, k2⟩ := cell_put2 Hk2.out (S (l.take j)) (S ([] : H.T))
                      rw [← hV] at k1 k2
                      go_wp2
                      rw [← hV]
                      clear hV
                      refine bodyPost_ret (by simp [results, Tryz.results94, go_sem, k1, k2]; try rfl) rfl ?_
                      exact ⟨⟨⟨l.take j, ([] : H.T)⟩, true, rfl, by rw [HH.out]; rfl, by rw [List.length_take]; omega, by show ([] : H.T).length ≤ _; omega⟩, hbe⟩
                · have hp2 : 0 < v2.length := List.length_pos_iff.2 hvn2
                  have hne2 : v2.isEmpty = false := by cases v2 with | nil => exact absurd rfl hvn2 | cons => rfl
                  obtain ⟨d, hd⟩ : ∃ d : Nat, (v2[v2.length - 1]'(by omega)).toNat = d := ⟨_, rfl⟩
                  have hd1 : d < 256 := by rw [← hd]; exact (v2[v2.length - 1]'(by omega)).toNat_lt
                  obtain ⟨y, hy⟩ : ∃ y : Int, ((v2.length : Nat) : Int) = y := ⟨_, rfl⟩
                  have i3 : ∀ W, (Instr.index 9 (S v2) (.int .i64 (y - 1))).run Tryz.prog W = .ok (.int .u8 (d : Int)) W := fun W => by
                    have := index_str v2 (v2.length - 1) (by omega) (d : Int) (by rw [hd]) W
                    rwa [show (((v2.length - 1 : Nat)) : Int) = y - 1 from by omega] at this
                  have hwy : IntKind.i64.wrap (y - 1) = y - 1 := by rw [IntKind.wrap_i64]; omega
                  have hb3 := fun W => csy (dblank W d hd1)
                  cases hbl2 : H.blank d with
                  | true =>
                    rw [hbl2] at hb3
                    have Ht2 := Lib.hid (show H.tr (v2.take (v2.length - 1)) = H.tr v1 from by rw [← Hve2.out, H.tr_yes v2 hp2 (by rw [hd, hbl2])])
                    have e4 : (⟨v2.toArray⟩ : ByteArray).extract 0 (y.toNat - 1) = ⟨(v2.take (v2.length - 1)).toArray⟩ := by rw [show y.toNat - 1 = v2.length - 1 from by omega]; exact ext_take v2 _
                    have g5 : (0 : Int) ≤ y - 1 := by omega
                    have g6 : y - 1 ≤ y := by omega
                    have g7 : (⟨v2.toArray⟩ : ByteArray).size = v2.length := S_size v2
                    have g8 : (⟨(v2.take (v2.length - 1)).toArray⟩ : ByteArray).size = v2.length - 1 := by rw [S_size, List.length_take]; omega
                    clear hd hbl2
                    go_wp2_with (refine (hb3 _).mono ?_; rintro e w1 ⟨rfl, rfl⟩)
                    go_roundw
                    case rel => exact ⟨v2.take (v2.length - 1), by first | rfl | (simp [e4]), by rw [List.length_take]; omega, Ht2.out, by first | rfl | trivial⟩
                    case measure =>
                      simp only [g7, g8]
                      omega
                  | false =>
                    rw [hbl2] at hb3
                    have hv2 : H.tr (H.tl v0) = v2 := by rw [hv1', ← Hve2.out]; exact H.tr_no v2 hp2 (by rw [hd, hbl2])
                    clear hd hbl2
                    have HHd2 := HHd.out
                    rw [hv2] at HHd2
                    have Hvl := Lib.hid (show v2.length ≤ l.length from by have := Hv0l.out; omega)
                    have h32 := fun W => csy (dtoken W (l.take j) (by rw [List.length_take]; omega))
                    have h80 := fun W => csy (dvalue_is W v2 (by omega))
                    cases t1 : H.isOf (l.take j) H.tok with
                    | false =>
                      rw [t1] at h32 HHd2
                      have HH := Lib.hid HHd2
                      clear HHd2 h80
                      go_wp2_with (refine (hb3 _).mono ?_; rintro e w1 ⟨rfl, rfl⟩)
                      have hvl3 := Hvl.out
                      refine wp_region_any (by kernel_rfl) ?_
                      change wpAny _ _ _ _ _ _ _ X.drew
                      obtain ⟨D, hD⟩ : ∃ D, D = X.drew := ⟨_, rfl⟩
                      rw [← hD]
                      have hkD := HkD.out
                      rw [← hD] at hkD
                      have HbD := Lib.hid (HbD0.out)
                      rw [← hD] at HbD
                      obtain ⟨c0, c1⟩ := box2 hkD
                      obtain ⟨f0, f1⟩ := frz2 hkD
                      have lD := blk_lt hkD
                      have Hk2 := Lib.hid hkD
                      clear hkD hD
                      refine wpAny_take (i := 0) (v := ?vhk1) rfl (by kernel_rfl) (by kernel_rfl) (by kernel_rfl) (fun _ _ _ h => h) (Or.inl ⟨by kernel_rfl, ?hhk1⟩) ?rhk1
                      case hhk1 => (intro w; go_simp; first | done | (with_reducible rfl))
                      refine wpAny_take (i := 1) (v := ?vhk2) rfl (by kernel_rfl) (by kernel_rfl) (by kernel_rfl) (fun _ _ _ h => h) (Or.inl ⟨by kernel_rfl, ?hhk2⟩) ?rhk2
                      case hhk2 => (intro w; go_simp; first | done | (with_reducible rfl))
                      refine wpAny_take (i := 2) (v := ?vhk3) rfl (by kernel_rfl) (by kernel_rfl) (by kernel_rfl) (fun _ _ _ h => h) (Or.inl ⟨by kernel_rfl, ?hhk3⟩) ?rhk3
                      case hhk3 => (intro w; go_simp; first | done | (with_reducible rfl))
                      refine wpAny_take (i := 3) (v := ?vhk4) rfl (by kernel_rfl) (by kernel_rfl) (by kernel_rfl) (fun _ _ _ h => h) (Or.inl ⟨by kernel_rfl, ?hhk4⟩) ?rhk4
                      case hhk4 => (intro w; go_simp; first | done | (with_reducible rfl))
                      refine wpAny_take (i := 4) (v := ?vhk5) rfl (by kernel_rfl) (by kernel_rfl) (by kernel_rfl) (fun _ _ _ h => h) (Or.inl ⟨by kernel_rfl, ?hhk5⟩) ?rhk5
                      case hhk5 => (intro w; go_simp; first | done | (with_reducible rfl))
                      refine wpAny_take (i := 5) (v := ?vhk6) rfl (by kernel_rfl) (by kernel_rfl) (by kernel_rfl) (fun _ _ _ h => h) (Or.inl ⟨by kernel_rfl, ?hhk6⟩) ?rhk6
                      case hhk6 => (intro w; go_simp; first | done | (with_reducible rfl))
                      refine wpAny_take (i := 6) (v := ?vhk7) rfl (by kernel_rfl) (by kernel_rfl) (by kernel_rfl) (fun _ _ _ h => h) (Or.inl ⟨by kernel_rfl, ?hhk7⟩) ?rhk7
                      case hhk7 => (intro w; go_simp; first | done | (with_reducible rfl))
                      refine wpAny_take (i := 7) (v := ?vhk8) rfl (by kernel_rfl) (by kernel_rfl) (by kernel_rfl) (fun _ _ _ h => h) (Or.inl ⟨by kernel_rfl, ?hhk8⟩) ?rhk8
                      case hhk8 => (intro w; go_simp; first | done | (with_reducible rfl))
                      refine wpAny_ready (rs := [8]) (by kernel_rfl) (by simp) ?_
                      refine AllReady.cons rfl (fun K hK => ?_) AllReady.nil
                      go_simp
                      with_reducible refine (h32 _).mono ?_
                      rintro e w5 ⟨rfl, rfl⟩
                      refine hK _ _ ?_
                      clear hK K
                      refine wpAny_take (i := 9) (v := ?vhk9) rfl (by kernel_rfl) (by kernel_rfl) (by kernel_rfl) (fun _ _ _ h => h) (Or.inl ⟨by kernel_rfl, ?hhk9⟩) ?rhk9
                      case hhk9 => (intro w; go_simp; first | done | (with_reducible rfl))
                      refine wpAny_take (i := 10) (v := undef) rfl (by kernel_rfl) (by kernel_rfl) (by kernel_rfl) (fun _ _ _ h => h) (Or.inr ⟨by kernel_rfl, rfl⟩) ?_
                      refine wpAny_take (i := 11) (v := undef) rfl (by kernel_rfl) (by kernel_rfl) (by kernel_rfl) (fun _ _ _ h => h) (Or.inr ⟨by kernel_rfl, rfl⟩) ?_
                      refine wpAny_take (i := 12) (v := ?vhk12) rfl (by kernel_rfl) (by kernel_rfl) (by kernel_rfl) (fun _ _ _ h => h) (Or.inl ⟨by kernel_rfl, ?hhk12⟩) ?rhk12
                      case hhk12 => (intro w; go_simp; first | done | (with_reducible rfl))
                      refine wpAny_ready (rs := [13]) (by kernel_rfl) (by simp) ?_
                      refine AllReady.cons rfl (fun K hK => ?_) AllReady.nil
                      go_simp
                      refine hK _ _ ?_
                      clear hK K
                      refine wpAny_ready (rs := [14]) (by kernel_rfl) (by simp) ?_
                      refine AllReady.cons rfl (fun K hK => ?_) AllReady.nil
                      go_simp
                      refine hK _ _ ?_
                      clear hK K
                      refine wpAny_done (by kernel_rfl) ?_ _
                      try go_simp
                      obtain ⟨V, hV⟩ : ∃ V, V = (D.setCell ⟨w.heap.size, 0, none⟩ (S (l.take j))).setCell ⟨w.heap.size, 1, none⟩ (S v2) := ⟨_, rfl⟩
                      have hbe : Below w.heap.size w V := by rw [hV]; exact (HbD.out.setCell (p := ⟨w.heap.size, 0, none⟩) (Nat.le_refl _) _).setCell (p := ⟨w.heap.size, 1, none⟩) (Nat.le_refl _) _
                      obtain ⟨k1, k2⟩ := cell_put2 Hk2.out (S (l.take j)) (S v2)
                      rw [← hV] at k1 k2
                      go_wp2
                      rw [← hV]
                      clear hV
                      refine bodyPost_ret (by simp [results, Tryz.results94, go_sem, k1, k2]; try rfl) rfl ?_
                      exact ⟨⟨⟨l.take j, v2⟩, false, rfl, by rw [HH.out]; rfl, by rw [List.length_take]; omega, by show v2.length ≤ _; omega⟩, hbe⟩
                    | true =>
                      rw [t1] at h32 HHd2
                      cases t2 : H.isValue v2 with
                      | false =>
                        rw [t2] at h80 HHd2
                        have HH := Lib.hid HHd2
                        clear HHd2
                        go_wp2_with (refine (hb3 _).mono ?_; rintro e w1 ⟨rfl, rfl⟩)
                        have hvl3 := Hvl.out
                        refine wp_region_any (by kernel_rfl) ?_
                        change wpAny _ _ _ _ _ _ _ X.drew
                        obtain ⟨D, hD⟩ : ∃ D, D = X.drew := ⟨_, rfl⟩
                        rw [← hD]
                        have hkD := HkD.out
                        rw [← hD] at hkD
                        have HbD := Lib.hid (HbD0.out)
                        rw [← hD] at HbD
                        obtain ⟨c0, c1⟩ := box2 hkD
                        obtain ⟨f0, f1⟩ := frz2 hkD
                        have lD := blk_lt hkD
                        have Hk2 := Lib.hid hkD
                        clear hkD hD
                        refine wpAny_take (i := 0) (v := ?vhl1) rfl (by kernel_rfl) (by kernel_rfl) (by kernel_rfl) (fun _ _ _ h => h) (Or.inl ⟨by kernel_rfl, ?hhl1⟩) ?rhl1
                        case hhl1 => (intro w; go_simp; first | done | (with_reducible rfl))
                        refine wpAny_take (i := 1) (v := ?vhl2) rfl (by kernel_rfl) (by kernel_rfl) (by kernel_rfl) (fun _ _ _ h => h) (Or.inl ⟨by kernel_rfl, ?hhl2⟩) ?rhl2
                        case hhl2 => (intro w; go_simp; first | done | (with_reducible rfl))
                        refine wpAny_take (i := 2) (v := ?vhl3) rfl (by kernel_rfl) (by kernel_rfl) (by kernel_rfl) (fun _ _ _ h => h) (Or.inl ⟨by kernel_rfl, ?hhl3⟩) ?rhl3
                        case hhl3 => (intro w; go_simp; first | done | (with_reducible rfl))
                        refine wpAny_take (i := 3) (v := ?vhl4) rfl (by kernel_rfl) (by kernel_rfl) (by kernel_rfl) (fun _ _ _ h => h) (Or.inl ⟨by kernel_rfl, ?hhl4⟩) ?rhl4
                        case hhl4 => (intro w; go_simp; first | done | (with_reducible rfl))
                        refine wpAny_take (i := 4) (v := ?vhl5) rfl (by kernel_rfl) (by kernel_rfl) (by kernel_rfl) (fun _ _ _ h => h) (Or.inl ⟨by kernel_rfl, ?hhl5⟩) ?rhl5
                        case hhl5 => (intro w; go_simp; first | done | (with_reducible rfl))
                        refine wpAny_take (i := 5) (v := ?vhl6) rfl (by kernel_rfl) (by kernel_rfl) (by kernel_rfl) (fun _ _ _ h => h) (Or.inl ⟨by kernel_rfl, ?hhl6⟩) ?rhl6
                        case hhl6 => (intro w; go_simp; first | done | (with_reducible rfl))
                        refine wpAny_take (i := 6) (v := ?vhl7) rfl (by kernel_rfl) (by kernel_rfl) (by kernel_rfl) (fun _ _ _ h => h) (Or.inl ⟨by kernel_rfl, ?hhl7⟩) ?rhl7
                        case hhl7 => (intro w; go_simp; first | done | (with_reducible rfl))
                        refine wpAny_take (i := 7) (v := ?vhl8) rfl (by kernel_rfl) (by kernel_rfl) (by kernel_rfl) (fun _ _ _ h => h) (Or.inl ⟨by kernel_rfl, ?hhl8⟩) ?rhl8
                        case hhl8 => (intro w; go_simp; first | done | (with_reducible rfl))
                        refine wpAny_ready (rs := [8]) (by kernel_rfl) (by simp) ?_
                        refine AllReady.cons rfl (fun K hK => ?_) AllReady.nil
                        go_simp
                        with_reducible refine (h32 _).mono ?_
                        rintro e w5 ⟨rfl, rfl⟩
                        refine hK _ _ ?_
                        clear hK K
                        refine wpAny_take (i := 9) (v := ?vhl9) rfl (by kernel_rfl) (by kernel_rfl) (by kernel_rfl) (fun _ _ _ h => h) (Or.inl ⟨by kernel_rfl, ?hhl9⟩) ?rhl9
                        case hhl9 => (intro w; go_simp; first | done | (with_reducible rfl))
                        refine wpAny_take (i := 10) (v := ?vhl10) rfl (by kernel_rfl) (by kernel_rfl) (by kernel_rfl) (fun _ _ _ h => h) (Or.inl ⟨by kernel_rfl, ?hhl10⟩) ?rhl10
                        case hhl10 => (intro w; go_simp; first | done | (with_reducible rfl))
                        refine wpAny_ready (rs := [11]) (by kernel_rfl) (by simp) ?_
                        refine AllReady.cons rfl (fun K hK => ?_) AllReady.nil
                        go_simp
                        with_reducible refine (h80 _).mono ?_
                        rintro e w6 ⟨rfl, rfl⟩
                        refine hK _ _ ?_
                        clear hK K
                        refine wpAny_take (i := 12) (v := ?vhl11) rfl (by kernel_rfl) (by kernel_rfl) (by kernel_rfl) (fun _ _ _ h => h) (Or.inl ⟨by kernel_rfl, ?hhl11⟩) ?rhl11
                        case hhl11 => (intro w; go_simp; first | done | (with_reducible rfl))
                        refine wpAny_ready (rs := [13]) (by kernel_rfl) (by simp) ?_
                        refine AllReady.cons rfl (fun K hK => ?_) AllReady.nil
                        go_simp
                        refine hK _ _ ?_
                        clear hK K
                        refine wpAny_ready (rs := [14]) (by kernel_rfl) (by simp) ?_
                        refine AllReady.cons rfl (fun K hK => ?_) AllReady.nil
                        go_simp
                        refine hK _ _ ?_
                        clear hK K
                        refine wpAny_done (by kernel_rfl) ?_ _
                        try go_simp
                        obtain ⟨V, hV⟩ : ∃ V, V = (D.setCell ⟨w.heap.size, 0, none⟩ (S (l.take j))).setCell ⟨w.heap.size, 1, none⟩ (S v2) := ⟨_, rfl⟩
                        have hbe : Below w.heap.size w V := by rw [hV]; exact (HbD.out.setCell (p := ⟨w.heap.size, 0, none⟩) (Nat.le_refl _) _).setCell (p := ⟨w.heap.size, 1, none⟩) (Nat.le_refl _) _
                        obtain ⟨k1, k2⟩ := cell_put2 Hk2.out (S (l.take j)) (S v2)
                        rw [← hV] at k1 k2
                        go_wp2
                        rw [← hV]
                        clear hV
                        refine bodyPost_ret (by simp [results, Tryz.results94, go_sem, k1, k2]; try rfl) rfl ?_
                        exact ⟨⟨⟨l.take j, v2⟩, false, rfl, by rw [HH.out]; rfl, by rw [List.length_take]; omega, by show v2.length ≤ _; omega⟩, hbe⟩
                      | true =>
                        rw [t2] at h80 HHd2
                        have HH := Lib.hid HHd2
                        clear HHd2
                        go_wp2_with (refine (hb3 _).mono ?_; rintro e w1 ⟨rfl, rfl⟩)
                        have hvl3 := Hvl.out
                        refine wp_region_any (by kernel_rfl) ?_
                        change wpAny _ _ _ _ _ _ _ X.drew
                        obtain ⟨D, hD⟩ : ∃ D, D = X.drew := ⟨_, rfl⟩
                        rw [← hD]
                        have hkD := HkD.out
                        rw [← hD] at hkD
                        have HbD := Lib.hid (HbD0.out)
                        rw [← hD] at HbD
                        obtain ⟨c0, c1⟩ := box2 hkD
                        obtain ⟨f0, f1⟩ := frz2 hkD
                        have lD := blk_lt hkD
                        have Hk2 := Lib.hid hkD
                        clear hkD hD
                        refine wpAny_take (i := 0) (v := ?vhm1) rfl (by kernel_rfl) (by kernel_rfl) (by kernel_rfl) (fun _ _ _ h => h) (Or.inl ⟨by kernel_rfl, ?hhm1⟩) ?rhm1
                        case hhm1 => (intro w; go_simp; first | done | (with_reducible rfl))
                        refine wpAny_take (i := 1) (v := ?vhm2) rfl (by kernel_rfl) (by kernel_rfl) (by kernel_rfl) (fun _ _ _ h => h) (Or.inl ⟨by kernel_rfl, ?hhm2⟩) ?rhm2
                        case hhm2 => (intro w; go_simp; first | done | (with_reducible rfl))
                        refine wpAny_take (i := 2) (v := ?vhm3) rfl (by kernel_rfl) (by kernel_rfl) (by kernel_rfl) (fun _ _ _ h => h) (Or.inl ⟨by kernel_rfl, ?hhm3⟩) ?rhm3
                        case hhm3 => (intro w; go_simp; first | done | (with_reducible rfl))
                        refine wpAny_take (i := 3) (v := ?vhm4) rfl (by kernel_rfl) (by kernel_rfl) (by kernel_rfl) (fun _ _ _ h => h) (Or.inl ⟨by kernel_rfl, ?hhm4⟩) ?rhm4
                        case hhm4 => (intro w; go_simp; first | done | (with_reducible rfl))
                        refine wpAny_take (i := 4) (v := ?vhm5) rfl (by kernel_rfl) (by kernel_rfl) (by kernel_rfl) (fun _ _ _ h => h) (Or.inl ⟨by kernel_rfl, ?hhm5⟩) ?rhm5
                        case hhm5 => (intro w; go_simp; first | done | (with_reducible rfl))
                        refine wpAny_take (i := 5) (v := ?vhm6) rfl (by kernel_rfl) (by kernel_rfl) (by kernel_rfl) (fun _ _ _ h => h) (Or.inl ⟨by kernel_rfl, ?hhm6⟩) ?rhm6
                        case hhm6 => (intro w; go_simp; first | done | (with_reducible rfl))
                        refine wpAny_take (i := 6) (v := ?vhm7) rfl (by kernel_rfl) (by kernel_rfl) (by kernel_rfl) (fun _ _ _ h => h) (Or.inl ⟨by kernel_rfl, ?hhm7⟩) ?rhm7
                        case hhm7 => (intro w; go_simp; first | done | (with_reducible rfl))
                        refine wpAny_take (i := 7) (v := ?vhm8) rfl (by kernel_rfl) (by kernel_rfl) (by kernel_rfl) (fun _ _ _ h => h) (Or.inl ⟨by kernel_rfl, ?hhm8⟩) ?rhm8
                        case hhm8 => (intro w; go_simp; first | done | (with_reducible rfl))
                        refine wpAny_ready (rs := [8]) (by kernel_rfl) (by simp) ?_
                        refine AllReady.cons rfl (fun K hK => ?_) AllReady.nil
                        go_simp
                        with_reducible refine (h32 _).mono ?_
                        rintro e w5 ⟨rfl, rfl⟩
                        refine hK _ _ ?_
                        clear hK K
                        refine wpAny_take (i := 9) (v := ?vhm9) rfl (by kernel_rfl) (by kernel_rfl) (by kernel_rfl) (fun _ _ _ h => h) (Or.inl ⟨by kernel_rfl, ?hhm9⟩) ?rhm9
                        case hhm9 => (intro w; go_simp; first | done | (with_reducible rfl))
                        refine wpAny_take (i := 10) (v := ?vhm10) rfl (by kernel_rfl) (by kernel_rfl) (by kernel_rfl) (fun _ _ _ h => h) (Or.inl ⟨by kernel_rfl, ?hhm10⟩) ?rhm10
                        case hhm10 => (intro w; go_simp; first | done | (with_reducible rfl))
                        refine wpAny_ready (rs := [11]) (by kernel_rfl) (by simp) ?_
                        refine AllReady.cons rfl (fun K hK => ?_) AllReady.nil
                        go_simp
                        with_reducible refine (h80 _).mono ?_
                        rintro e w6 ⟨rfl, rfl⟩
                        refine hK _ _ ?_
                        clear hK K
                        refine wpAny_take (i := 12) (v := ?vhm11) rfl (by kernel_rfl) (by kernel_rfl) (by kernel_rfl) (fun _ _ _ h => h) (Or.inl ⟨by kernel_rfl, ?hhm11⟩) ?rhm11
                        case hhm11 => (intro w; go_simp; first | done | (with_reducible rfl))
                        refine wpAny_ready (rs := [13]) (by kernel_rfl) (by simp) ?_
                        refine AllReady.cons rfl (fun K hK => ?_) AllReady.nil
                        go_simp
                        refine hK _ _ ?_
                        clear hK K
                        refine wpAny_ready (rs := [14]) (by kernel_rfl) (by simp) ?_
                        refine AllReady.cons rfl (fun K hK => ?_) AllReady.nil
                        go_simp
                        refine hK _ _ ?_
                        clear hK K
                        refine wpAny_done (by kernel_rfl) ?_ _
                        try go_simp
                        obtain ⟨V, hV⟩ : ∃ V, V = (D.setCell ⟨w.heap.size, 0, none⟩ (S (l.take j))).setCell ⟨w.heap.size, 1, none⟩ (S v2) := ⟨_, rfl⟩
                        have hbe : Below w.heap.size w V := by rw [hV]; exact (HbD.out.setCell (p := ⟨w.heap.size, 0, none⟩) (Nat.le_refl _) _).setCell (p := ⟨w.heap.size, 1, none⟩) (Nat.le_refl _) _
                        obtain ⟨k1, k2⟩ := cell_put2 Hk2.out (S (l.take j)) (S v2)
                        rw [← hV] at k1 k2
                        go_wp2
                        rw [← hV]
                        clear hV
                        refine bodyPost_ret (by simp [results, Tryz.results94, go_sem, k1, k2]; try rfl) rfl ?_
                        exact ⟨⟨⟨l.take j, v2⟩, true, rfl, by rw [HH.out]; rfl, by rw [List.length_take]; omega, by show v2.length ≤ _; omega⟩, hbe⟩
      · have hx58' : ¬ (x : Int) = 58 := by omega
        have Hn3 := Lib.hid (no_app l j hlt 58 Hn.out (fun h => hx58 (by rw [← HXX.out, h]; rfl)))
        go_wp2
        go_roundw
        case rel => exact ⟨j + 1, by go_num, by omega, Hn3.out, by first | rfl | trivial⟩
        case measure => simp [intOf]; omega
    · have hjz : ¬ (j : Int) < z := by omega
      have hno := H.head_no l (by have := Hn.out; rwa [List.take_of_length_le (by omega)] at this)
      have HH := Lib.hid hno
      clear hno
      obtain ⟨c0, c1⟩ := box2 Hx.out
      obtain ⟨f0, f1⟩ := frz2 Hx.out
      have lx := blk_lt Hx.out
      go_wp2
      obtain ⟨V, hV⟩ : ∃ V, V = (X.setCell ⟨w.heap.size, 0, none⟩ (S [])).setCell ⟨w.heap.size, 1, none⟩ (S []) := ⟨_, rfl⟩
      rw [← hV]
      have hbe : Below w.heap.size w V := by rw [hV]; exact (Hb.out.setCell (p := ⟨w.heap.size, 0, none⟩) (Nat.le_refl _) _).setCell (p := ⟨w.heap.size, 1, none⟩) (Nat.le_refl _) _
      obtain ⟨k1, k2⟩ := cell_put2 Hx.out (S []) (S [])
      rw [← hV] at k1 k2
      clear hV c0 c1 f0 f1
      refine bodyPost_ret (by simp [results, Tryz.results94, go_sem, k1, k2]; try rfl) rfl ?_
      exact ⟨⟨⟨[], []⟩, false, rfl, by rw [HH.out]; rfl, by simp, by simp⟩, hbe⟩
end Go.Proofs.YtjkinjfbjbehjaaGreatDoor
