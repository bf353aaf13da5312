/- The statement of the law WireZigs is proved: for every signed number, every unsigned number and every text within the form's own reach, the law returns true, and each argument reads afterwards as it did; no condition of ours. -/
import Derived.Test.YtjbadjkgffamlaaRows
import Derived.Test.YtjbadjkgffamlaaLive
import Derived.ProofKit
import Derived.OpenShut
import Derived.ShutString
import Derived.SizedLaws
namespace Go.Proofs.Ytjbadjkgffamlaa.wireZigs
open Go.ChangeShapes Go.WideShapes Go.ChangeAt Go.RowKit
open Go.ChangeMaps (open_string shut_string)
set_option linter.unusedVariables false
set_option linter.unusedSimpArgs false

theorem own : ownKnob Try.prog.godebug = none := by kernel_rfl

theorem zag_zig (n : Int) : zagI (zigI n) = n := by
  unfold zagI zigI
  by_cases h : n < 0
  · rw [if_pos h, if_pos (by omega)]; omega
  · rw [if_neg h, if_neg (by omega)]; omega
theorem zig_zag (m : Int) (h0 : 0 ≤ m) : zigI (zagI m) = m := by
  unfold zagI zigI
  by_cases h : m % 2 = 1
  · rw [if_pos h, if_pos (by omega)]; omega
  · rw [if_neg h, if_neg (by omega)]; omega
theorem zigI_bd (n : Int) (h1 : -9223372036854775808 ≤ n) (h2 : n ≤ 9223372036854775807) : 0 ≤ zigI n ∧ zigI n ≤ 18446744073709551615 := by unfold zigI; split <;> omega
theorem zagI_bd (m : Int) (h1 : 0 ≤ m) (h2 : m ≤ 18446744073709551615) : -9223372036854775808 ≤ zagI m ∧ zagI m ≤ 9223372036854775807 := by unfold zagI; split <;> omega

set_option maxHeartbeats 4000000 in
theorem walk (n m : Int) (l : List UInt8) (hn1 : -9223372036854775808 ≤ n) (hn2 : n ≤ 9223372036854775807) (hm1 : 0 ≤ m) (hm2 : m ≤ 18446744073709551615) (hl : l.length ≤ 140737488351232) (w : World) :
    Calls Try.prog 8 #[.int .i64 n, .int .u64 m, .string ⟨l.toArray⟩] w fun e w' => e = .returned (.bool true) ∧ Below w.heap.size w w' := by
  obtain ⟨q, hq⟩ : ∃ q, q = zigI n := ⟨_, rfl⟩
  obtain ⟨p, hp⟩ : ∃ p, p = zagI m := ⟨_, rfl⟩
  have hqb := zigI_bd n hn1 hn2
  have hpb := zagI_bd m hm1 hm2
  have cA : ∀ W, Calls Try.prog 16 #[.int .i64 n] W fun e w' => e = .returned (.int .u64 q) ∧ W = w' := fun W => by rw [hq]; exact zig_any n W hn1 hn2
  have cB : ∀ W, Calls Try.prog 18 #[.int .u64 q] W fun e w' => e = .returned (.int .i64 n) ∧ W = w' := fun W => by
    have := zag_any q W (by omega) (by omega)
    rwa [show zagI q = n by rw [hq, zag_zig]] at this
  have cC : ∀ W, Calls Try.prog 18 #[.int .u64 m] W fun e w' => e = .returned (.int .i64 p) ∧ W = w' := fun W => by rw [hp]; exact zag_any m W hm1 hm2
  have cD : ∀ W, Calls Try.prog 16 #[.int .i64 p] W fun e w' => e = .returned (.int .u64 m) ∧ W = w' := fun W => by
    have := zig_any p W (by omega) (by omega)
    rwa [show zigI p = m by rw [hp, zig_zag m hm1]] at this
  obtain ⟨xs, hxs⟩ : ∃ xs, xs = M.vnum m.toNat := ⟨_, rfl⟩
  have cN : ∀ W, Calls Try.prog 14 #[.int .u64 m] W fun e w' => e = .returned (.string ⟨xs.toArray⟩) ∧ Below W.heap.size W w' := fun W => by rw [hxs]; exact num_any m W hm1 hm2
  have hrd : M.rd (xs ++ l) = some (m.toNat, xs.length) := by rw [hxs]; exact M.rd_vnum _ _ (by omega)
  have hx10 : xs.length ≤ 10 := by rw [hxs]; exact M.vnum_len10 _ (by omega)
  have hx0 : 0 < xs.length := by rw [hxs]; exact M.vnum_pos _
  have hx1 : xs.length = 1 ↔ m < 128 := by rw [hxs, M.vnum_len1]; omega
  obtain ⟨ys, hys⟩ : ∃ ys, ys = M.vnum (m / 2).toNat := ⟨_, rfl⟩
  have cH : ∀ W, Calls Try.prog 14 #[.int .u64 (m / 2)] W fun e w' => e = .returned (.string ⟨ys.toArray⟩) ∧ Below W.heap.size W w' := fun W => by rw [hys]; exact num_any (m / 2) W (by omega) (by omega)
  have hyx : ys.length ≤ xs.length := by rw [hys, hxs]; exact M.vnum_half _ _ (by omega)
  have cR : ∀ W, Calls Try.prog 11 #[.string ⟨(xs ++ l).toArray⟩] W fun e w' => e = .returned (.tuple #[.int .u64 m, .int .i64 (xs.length : Int), .int .i64 0]) ∧ W = w' := fun W => by
    have := readNum_any (xs ++ l) W (by simp only [List.length_append]; omega)
    rw [rdVal_some hrd] at this
    rwa [show ((m.toNat : Nat) : Int) = m by omega] at this
  have hadd : ∀ W, (Op.stringOp .add ⟨xs.toArray⟩ ⟨l.toArray⟩).run Try.prog W = .ok (.string ⟨(xs ++ l).toArray⟩) W := fun W => by
    rw [run_string_add_sum W _ _ (by simp [ByteArray.size]; omega), ByteArray.mk_append_mk]
  have HA := Lib.hid cA
  have HB := Lib.hid cB
  have HC := Lib.hid cC
  have HD := Lib.hid cD
  have HN := Lib.hid cN
  have HH := Lib.hid cH
  have HR := Lib.hid cR
  have Hadd := Lib.hid hadd
  have Hyx := Lib.hid hyx
  have Hx1 := Lib.hid hx1
  clear cA cB cC cD cN cH cR hadd hrd hxs hys hq hp hqb hpb hyx hx1
  go_enter Try.func8, Try.ntmps8
  go_wp2_with fail
  refine (lives_any w).mono ?_
  rintro e w1 ⟨rfl, hb1⟩
  have Hb1 := Lib.hid hb1
  clear hb1
  go_wp2_with fail
  refine (HA.out _).mono ?_
  rintro e w' ⟨rfl, rfl⟩
  go_wp2_with fail
  refine (HB.out _).mono ?_
  rintro e w' ⟨rfl, rfl⟩
  go_wp2_with fail
  refine (HC.out _).mono ?_
  rintro e w' ⟨rfl, rfl⟩
  go_wp2_with fail
  refine (HD.out _).mono ?_
  rintro e w' ⟨rfl, rfl⟩
  go_wp2_with fail
  refine (HN.out _).mono ?_
  rintro e w2 ⟨rfl, hb2⟩
  have Hb2 := Lib.hid hb2
  clear hb2
  have hadd := Hadd.out
  go_wp2_with fail
  refine (HR.out _).mono ?_
  rintro e w' ⟨rfl, rfl⟩
  clear hadd
  have hyx : (ys.length : Int) ≤ (xs.length : Int) := by have := Hyx.out; omega
  have hx10' : (xs.length : Int) ≤ 10 := by omega
  have h1 := Hb1.out
  by_cases hm : m < 128
  · have hx1 : ((xs.length : Int) == 1) = true := by have := Hx1.out.2 hm; simp; omega
    have hd : decide (m < 128) = true := by simp [hm]
    go_wp2_with fail
    refine (HH.out _).mono ?_
    rintro e w3 ⟨rfl, hb3⟩
    have Hb3 := Lib.hid hb3
    clear hb3
    go_wp2
    go_ret
    exact ⟨rfl, (h1.trans (Hb2.out.mono h1.size)).trans (Hb3.out.mono (Nat.le_trans h1.size Hb2.out.size))⟩
  · have hx1 : ((xs.length : Int) == 1) = false := by have := Hx1.out; simp; omega
    have hd : decide (m < 128) = false := by simp; omega
    go_wp2_with fail
    refine (HH.out _).mono ?_
    rintro e w3 ⟨rfl, hb3⟩
    have Hb3 := Lib.hid hb3
    clear hb3
    go_wp2
    go_ret
    exact ⟨rfl, (h1.trans (Hb2.out.mono h1.size)).trans (Hb3.out.mono (Nat.le_trans h1.size Hb2.out.size))⟩

set_option maxRecDepth 100000 in
theorem lifted (os : Os) (started : os.Started) (H : Type) (enc : TypeId × Value → H) :
    ReturnsInHanded {} Try.checked os 8 .any (Rows.wireZigsSpec.pre6 enc Try.prog Try.f8 Rows.wireZigsRow.domain false) (Rows.wireZigsSpec.post enc Try.prog Try.f8 false true false false) := by
  refine returnsInHanded_of_change_sized (C := Try.checked) own started (by kernel_rfl) Try.func8
    (ChangeSpec.witness6 (enc := enc) (C := Try.checked) false ⟨#[], #[.int .i64 0, .int .u64 0, .string ByteArray.empty], []⟩ 8 (by kernel_rfl) (by kernel_rfl) (by kernel_rfl) (by kernel_rfl)) ?_
  intro W base args ds gs before hval0 hW hcnd0 hsz0 hholds
  have hval : ∀ (j : Nat) t v, Try.f8.params[j]? = some t → args[j]? = some v → Value.okWide Try.prog W .any base t v := hval0
  have hsz : (DataW.weightsEach Try.prog (Try.f8.params.toList ++ Rows.wireZigsSpec.plain.varTypes Try.prog) (ds ++ gs)).all (· ≤ reachBytes) = true := hsz0
  have hW' := hW
  obtain ⟨p, q, hA0, hV, rfl, hfz, hnd⟩ := hW
  have hA : DataW.TrodAll enc Try.prog W 0 (fun _ => true) true Try.f8.params.toList args.toList ds p := hA0
  rw [Try.params8] at hA hval hsz
  obtain ⟨v0, vs0, d0, ds0, p0, q0, hargs, rfl, rfl, h0, r0⟩ := trodAll_cons hA
  obtain ⟨v1, vs1, d1, ds1, p1, q1, rfl, rfl, rfl, h1, r1⟩ := trodAll_cons r0
  obtain ⟨v2, vs2, d2, ds2, p2, q2, rfl, rfl, rfl, h2, r2⟩ := trodAll_cons r1
  obtain ⟨rfl, rfl, rfl⟩ := trodAll_nil r2
  obtain rfl : args = #[v0, v1, v2] := by cases args; simp_all
  obtain ⟨rfl, rfl⟩ := trodVars_none hV
  obtain ⟨a0, rfl, rfl, rfl, w0⟩ := open_int Try.underlying2 (hval 0 2 v0 rfl rfl) h0
  obtain ⟨a1, rfl, rfl, rfl, w1⟩ := open_int Try.underlying22 (hval 1 22 v1 rfl rfl) h1
  obtain ⟨a2, rfl, rfl, rfl, w2⟩ := open_string Try.underlying9 (hval 2 9 v2 rfl rfl) h2
  have hlen : a2.data.toList.length ≤ reachBytes := sized_string hsz (j := 2) (t := 9) rfl rfl
  clear hA0 hval0
  obtain ⟨l, rfl⟩ : ∃ l : List UInt8, a2 = ⟨l.toArray⟩ := ⟨a2.data.toList, by cases a2; simp⟩
  have bd0 := bounds_i64 w0
  have bd1 := bounds_u64 w1
  simp only [List.append_nil] at hW'
  refine (walk a0 a1 l bd0.1 bd0.2 bd1.1 bd1.2 (by simpa [reachBytes] using hlen) W).mono fun e W' ⟨he, bel⟩ => ?_
  subst he
  exact ⟨_, rfl, _, _, _, [], _, [], hW', trodAll_mk1 (shut_bool Try.underlying4 _), (trodAll_cons_mk (shut_int Try.underlying2 w0) (trodAll_cons_mk (shut_int Try.underlying22 w1) (trodAll_cons_mk (shut_string Try.underlying9 w2) trodAll_mk0))), rfl, bel.frame _, fun h => by cases h⟩

theorem over : Rows.wireZigsRow.holds Try.pinned (OpenSpec.ofChange Rows.wireZigsSpec) :=
  OpenClaim.holds_of_wide 8 Try.f8 rfl rfl rfl rfl rfl rfl rfl ⟨rfl, rfl, rfl, rfl, rfl⟩ rfl rfl rfl rfl rfl (by kernel_rfl) Try.func8 (by kernel_rfl)
    (of_decide_eq_true (by kernel_rfl)) (by unfold Func.isWrapper; rw [if_neg (by decide +kernel)]; exact ⟨rfl, rfl⟩)
    (fun os started H enc _ => lifted os started H enc)

theorem proved : Rows.WireZigsSaid := over
#print axioms proved
end Go.Proofs.Ytjbadjkgffamlaa.wireZigs
