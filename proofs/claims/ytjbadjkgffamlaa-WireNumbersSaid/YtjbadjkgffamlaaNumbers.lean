/- The statement of the law WireNumbers is proved: for every unsigned number and every text within the form's own reach, the law returns true, and each argument reads afterwards as it did; no condition of ours. -/
import Derived.Test.YtjbadjkgffamlaaRows
import Derived.Test.YtjbadjkgffamlaaLive
import Derived.Test.YtjbadjkgffamlaaRef
import Derived.ProofKit
import Derived.OpenShut
import Derived.ShutString
import Derived.SizedLaws
namespace Go.Proofs.Ytjbadjkgffamlaa.wireNumbers
open Go.ChangeShapes Go.WideShapes Go.ChangeAt Go.RowKit
open Go.ChangeMaps (open_string shut_string)
set_option linter.unusedVariables false
set_option linter.unusedSimpArgs false

theorem own : ownKnob Try.prog.godebug = none := by kernel_rfl

theorem zigI_bd (n : Int) (h1 : -9223372036854775808 ≤ n) (h2 : n ≤ 9223372036854775807) : 0 ≤ zigI n ∧ zigI n ≤ 18446744073709551615 := by unfold zigI; split <;> omega
theorem zagI_bd (m : Int) (h1 : 0 ≤ m) (h2 : m ≤ 18446744073709551615) : -9223372036854775808 ≤ zagI m ∧ zagI m ≤ 9223372036854775807 := by unfold zagI; split <;> omega

set_option maxHeartbeats 4000000 in
theorem walk (n : Int) (l : List UInt8) (hn1 : 0 ≤ n) (hn2 : n ≤ 18446744073709551615) (hl : l.length ≤ 140737488351232) (w : World) :
    Calls Try.prog 3 #[.int .u64 n, .string ⟨l.toArray⟩] w fun e w' => e = .returned (.bool true) ∧ Below w.heap.size w w' := by
  obtain ⟨x, y, z, hv⟩ : ∃ x y z : Int, rdVal l = .tuple #[.int .u64 x, .int .i64 y, .int .i64 z] := by
    unfold rdVal
    split
    · exact ⟨_, _, _, rfl⟩
    · exact ⟨_, _, _, rfl⟩
  have cR : ∀ W, Calls Try.prog 11 #[.string ⟨l.toArray⟩] W fun e w' => e = .returned (.tuple #[.int .u64 x, .int .i64 y, .int .i64 z]) ∧ W = w' := fun W => by rw [← hv]; exact readNum_any l W (by omega)
  have cS : ∀ W, Calls Try.prog 12 #[.string ⟨l.toArray⟩] W fun e w' => e = .returned (.tuple #[.int .u64 x, .int .i64 y, .int .i64 z]) ∧ W = w' := fun W => by rw [← hv]; exact rreadNum_any l W (by omega)
  obtain ⟨xs, hxs⟩ : ∃ xs, xs = M.vnum n.toNat := ⟨_, rfl⟩
  have cN : ∀ W, Calls Try.prog 14 #[.int .u64 n] W fun e w' => e = .returned (.string ⟨xs.toArray⟩) ∧ Below W.heap.size W w' := fun W => by rw [hxs]; exact num_any n W hn1 hn2
  have cM : ∀ W, Calls Try.prog 15 #[.int .u64 n] W fun e w' => e = .returned (.string ⟨xs.toArray⟩) ∧ Below W.heap.size W w' := fun W => by rw [hxs]; exact rnum_any n W hn1 hn2
  have htb : -9223372036854775808 ≤ wrap64 n ∧ wrap64 n ≤ 9223372036854775807 := by unfold wrap64; omega
  obtain ⟨q, hq⟩ : ∃ q, q = zigI (wrap64 n) := ⟨_, rfl⟩
  obtain ⟨p, hp⟩ : ∃ p, p = zagI n := ⟨_, rfl⟩
  have cA : ∀ W, Calls Try.prog 16 #[.int .i64 (wrap64 n)] W fun e w' => e = .returned (.int .u64 q) ∧ W = w' := fun W => by rw [hq]; exact zig_any (wrap64 n) W htb.1 htb.2
  have cB : ∀ W, Calls Try.prog 17 #[.int .i64 (wrap64 n)] W fun e w' => e = .returned (.int .u64 q) ∧ W = w' := fun W => by rw [hq]; exact rzig_any (wrap64 n) W htb.1 htb.2
  have cC : ∀ W, Calls Try.prog 18 #[.int .u64 n] W fun e w' => e = .returned (.int .i64 p) ∧ W = w' := fun W => by rw [hp]; exact zag_any n W hn1 hn2
  have cD : ∀ W, Calls Try.prog 19 #[.int .u64 n] W fun e w' => e = .returned (.int .i64 p) ∧ W = w' := fun W => by rw [hp]; exact rzag_any n W hn1 hn2
  have HA := Lib.hid cA
  have HB := Lib.hid cB
  have HC := Lib.hid cC
  have HD := Lib.hid cD
  have HN := Lib.hid cN
  have HM := Lib.hid cM
  have HR := Lib.hid cR
  have HS := Lib.hid cS
  clear cA cB cC cD cN cM cR cS hxs hq hp hv htb
  go_enter Try.func3, Try.ntmps3
  go_wp2_with fail
  refine (HR.out _).mono ?_
  rintro e w' ⟨rfl, rfl⟩
  go_wp2_with fail
  refine (HS.out _).mono ?_
  rintro e w' ⟨rfl, rfl⟩
  go_wp2_with fail
  refine (lives_any w).mono ?_
  rintro e w1 ⟨rfl, hb1⟩
  have Hb1 := Lib.hid hb1
  clear hb1
  go_wp2_with fail
  refine (HN.out _).mono ?_
  rintro e w2 ⟨rfl, hb2⟩
  have Hb2 := Lib.hid hb2
  clear hb2
  go_wp2_with fail
  refine (HM.out _).mono ?_
  rintro e w3 ⟨rfl, hb3⟩
  have Hb3 := Lib.hid hb3
  clear hb3
  go_wp2_with fail
  refine (HA.out _).mono ?_
  rintro e w' ⟨rfl, rfl⟩
  go_wp2_with fail
  refine (HB.out _).mono ?_
  rintro e w' ⟨rfl, rfl⟩
  go_wp2_with fail
  refine (HC.out _).mono ?_
  rintro e w' ⟨rfl, rfl⟩
  go_wp2_with fail
  refine (HD.out _).mono ?_
  rintro e w' ⟨rfl, rfl⟩
  go_wp2
  go_ret
  have h1 := Hb1.out
  exact ⟨rfl, (h1.trans (Hb2.out.mono h1.size)).trans (Hb3.out.mono (Nat.le_trans h1.size Hb2.out.size))⟩

set_option maxRecDepth 100000 in
theorem lifted (os : Os) (started : os.Started) (H : Type) (enc : TypeId × Value → H) :
    ReturnsInHanded {} Try.checked os 3 .any (Rows.wireNumbersSpec.pre6 enc Try.prog Try.f3 Rows.wireNumbersRow.domain false) (Rows.wireNumbersSpec.post enc Try.prog Try.f3 false true false false) := by
  refine returnsInHanded_of_change_sized (C := Try.checked) own started (by kernel_rfl) Try.func3
    (ChangeSpec.witness6 (enc := enc) (C := Try.checked) false ⟨#[], #[.int .u64 0, .string ByteArray.empty], []⟩ 8 (by kernel_rfl) (by kernel_rfl) (by kernel_rfl) (by kernel_rfl)) ?_
  intro W base args ds gs before hval0 hW hcnd0 hsz0 hholds
  have hval : ∀ (j : Nat) t v, Try.f3.params[j]? = some t → args[j]? = some v → Value.okWide Try.prog W .any base t v := hval0
  have hsz : (DataW.weightsEach Try.prog (Try.f3.params.toList ++ Rows.wireNumbersSpec.plain.varTypes Try.prog) (ds ++ gs)).all (· ≤ reachBytes) = true := hsz0
  have hW' := hW
  obtain ⟨p, q, hA0, hV, rfl, hfz, hnd⟩ := hW
  have hA : DataW.TrodAll enc Try.prog W 0 (fun _ => true) true Try.f3.params.toList args.toList ds p := hA0
  rw [Try.params3] at hA hval hsz
  obtain ⟨v0, vs0, d0, ds0, p0, q0, hargs, rfl, rfl, h0, r0⟩ := trodAll_cons hA
  obtain ⟨v1, vs1, d1, ds1, p1, q1, rfl, rfl, rfl, h1, r1⟩ := trodAll_cons r0
  obtain ⟨rfl, rfl, rfl⟩ := trodAll_nil r1
  obtain rfl : args = #[v0, v1] := by cases args; simp_all
  obtain ⟨rfl, rfl⟩ := trodVars_none hV
  obtain ⟨a0, rfl, rfl, rfl, w0⟩ := open_int Try.underlying22 (hval 0 22 v0 rfl rfl) h0
  obtain ⟨a2, rfl, rfl, rfl, w2⟩ := open_string Try.underlying9 (hval 1 9 v1 rfl rfl) h1
  have hlen : a2.data.toList.length ≤ reachBytes := sized_string hsz (j := 1) (t := 9) rfl rfl
  clear hA0 hval0
  obtain ⟨l, rfl⟩ : ∃ l : List UInt8, a2 = ⟨l.toArray⟩ := ⟨a2.data.toList, by cases a2; simp⟩
  have bd0 := bounds_u64 w0
  simp only [List.append_nil] at hW'
  refine (walk a0 l bd0.1 bd0.2 (by simpa [reachBytes] using hlen) W).mono fun e W' ⟨he, bel⟩ => ?_
  subst he
  exact ⟨_, rfl, _, _, _, [], _, [], hW', trodAll_mk1 (shut_bool Try.underlying4 _), (trodAll_cons_mk (shut_int Try.underlying22 w0) (trodAll_cons_mk (shut_string Try.underlying9 w2) trodAll_mk0)), rfl, bel.frame _, fun h => by cases h⟩

theorem over : Rows.wireNumbersRow.holds Try.pinned (OpenSpec.ofChange Rows.wireNumbersSpec) :=
  OpenClaim.holds_of_wide 3 Try.f3 rfl rfl rfl rfl rfl rfl rfl ⟨rfl, rfl, rfl, rfl, rfl⟩ rfl rfl rfl rfl rfl (by kernel_rfl) Try.func3 (by kernel_rfl)
    (of_decide_eq_true (by kernel_rfl)) (by unfold Func.isWrapper; rw [if_neg (by decide +kernel)]; exact ⟨rfl, rfl⟩)
    (fun os started H enc _ => lifted os started H enc)

theorem proved : Rows.WireNumbersSaid := over
#print axioms proved
end Go.Proofs.Ytjbadjkgffamlaa.wireNumbers
