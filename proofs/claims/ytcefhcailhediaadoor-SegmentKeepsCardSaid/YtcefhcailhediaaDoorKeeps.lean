/- The tied card of the law SegmentKeeps is proved: for every size, every text, every two numbers and every texts and numbers within the form's own reach, the law returns true, and each argument reads afterwards as it did; no condition of ours beside what the card lists. -/
import Derived.Test.YtcefhcailhediaaDoorRows
import Derived.Test.YtcefhcailhediaaDoorCards
import Derived.Test.YtcefhcailhediaaDoorTie
import Derived.Test.YtcefhcailhediaaDoorGar
import Derived.Test.YtcefhcailhediaaDoorGat
import Derived.SizedLaws
import Derived.ProofKit
import Derived.OpenShut
import Derived.ShutString
import Derived.LaidMore
import Derived.Lay
import Derived.Carry
import Derived.SevenTiedAt
import Derived.Stop.Joined
namespace Go.Proofs.YtcefhcailhediaaDoor.segmentKeeps
open Go.ChangeShapes Go.WideShapes Go.ChangeAt Go.RowKit
open Go.ChangeMaps (open_string shut_string)
set_option linter.unusedVariables false
set_option linter.unusedSimpArgs false

theorem own : ownKnob Tryd.prog.godebug = none := by kernel_rfl
theorem laidOut : laidOutB Tryd.prog = true := by kernel_rfl

set_option maxRecDepth 100000 in
theorem tabsOf {w : World} (h : laidMetH Tryd.prog Rows.segmentKeepsRow.laid w) : Tabs w := by
  rw [MakeChecks.laidMetH_plain _ _ _ (by kernel_rfl)] at h
  exact seg_tabs h (by simp [Rows.segmentKeepsRow]) (by simp [Rows.segmentKeepsRow]) (by simp [Rows.segmentKeepsRow])

set_option maxRecDepth 100000 in
theorem lifted (os : Os) (started : os.Started) (H : Type) (enc : TypeId × Value → H) :
    ReturnsInHanded {} Tryd.checked os 3 .any (fun w args => (Rows.segmentKeepsSpec.pre enc Tryd.prog Tryd.f3 Rows.segmentKeepsRow.domain false w args ∧ laidMetH Tryd.prog Rows.segmentKeepsRow.laid w) ∧ sizedMet enc Tryd.prog Tryd.f3 (OpenSpec.ofChange Rows.segmentKeepsSpec) false w args)
      (Rows.segmentKeepsSpec.post enc Tryd.prog Tryd.f3 false true false false) := by
  refine returnsInHanded_of_change_and (C := Tryd.checked) (X := fun w _ => laidMetH Tryd.prog Rows.segmentKeepsRow.laid w) (fun _ _ _ hh h => h.of_heap hh) own started (by kernel_rfl) Tryd.func3
    (ChangeSpec.witness_shaped (enc := enc) (C := Tryd.checked) (os := os) (X := fun w _ => laidMetH Tryd.prog Rows.segmentKeepsRow.laid w) false (World.laidAll Tryd.prog os Rows.segmentKeepsRow.laid) #[.int .i64 0, .slice none 0 0, .string ByteArray.empty, .int .i64 0, .int .i64 0, .slice none 0 0] 8 (World.laidAll_os _ _ _)
      (World.shaped_of_ZipB (by kernel_rfl) (by kernel_rfl)) (by kernel_rfl) (by kernel_rfl) (by kernel_rfl)
      (by rw [MakeChecks.laidMetH_plain _ _ _ (by kernel_rfl)]; exact laidMet_laidAll _ (by kernel_rfl) (by kernel_rfl))) ?_
  intro W base args ds gs before hval0 hW hcnd0 hsz0 hL _
  have hval : ∀ (j : Nat) t v, Tryd.f3.params[j]? = some t → args[j]? = some v → Value.okWide Tryd.prog W .any base t v := hval0
  have hlt := fun x hx => hW.lt x hx
  have hW' := hW
  obtain ⟨p, q, hA0, hV, rfl, hfz, hnd⟩ := hW
  have hA : DataW.TrodAll enc Tryd.prog W 0 (fun _ => true) true Tryd.f3.params.toList args.toList ds p := hA0
  rw [Tryd.params3] at hA hval
  obtain ⟨v0, vs0, d0, ds0, p0, q0, hargs, rfl, rfl, h0, r0⟩ := trodAll_cons hA
  obtain ⟨v1, vs1, d1, ds1, p1, q1, rfl, rfl, rfl, h1, r1⟩ := trodAll_cons r0
  obtain ⟨v2, vs2, d2, ds2, p2, q2, rfl, rfl, rfl, h2, r2⟩ := trodAll_cons r1
  obtain ⟨v3, vs3, d3, ds3, p3, q3, rfl, rfl, rfl, h3, r3⟩ := trodAll_cons r2
  obtain ⟨v4, vs4, d4, ds4, p4, q4, rfl, rfl, rfl, h4, r4⟩ := trodAll_cons r3
  obtain ⟨v5, vs5, d5, ds5, p5, q5, rfl, rfl, rfl, h5, r5⟩ := trodAll_cons r4
  obtain ⟨rfl, rfl, rfl⟩ := trodAll_nil r5
  obtain rfl : args = #[v0, v1, v2, v3, v4, v5] := by cases args; simp_all
  obtain ⟨rfl, rfl⟩ := trodVars_none hV
  obtain ⟨i0, rfl, rfl, rfl, z0⟩ := open_int Tryd.underlying3 (hval 0 3 v0 rfl rfl) h0
  have zb0 : Num i0 := bounds_i64 z0
  obtain ⟨ad1, n1, cap1, ss1, rfl, hn1, hS1, hb1, hsb1⟩ := open_texts (hval 1 22 v1 rfl rfl) h1
  have ws2 := hval 2 9 v2 rfl rfl
  obtain ⟨s2, rfl, rfl, rfl, z2⟩ := open_string Tryd.underlying9 (hval 2 9 v2 rfl rfl) h2
  have hl2 : s2.size ≤ 9223372036854775807 := by simpa [maxLen] using z2
  obtain ⟨i3, rfl, rfl, rfl, z3⟩ := open_int Tryd.underlying3 (hval 3 3 v3 rfl rfl) h3
  have zb3 : Num i3 := bounds_i64 z3
  obtain ⟨i4, rfl, rfl, rfl, z4⟩ := open_int Tryd.underlying3 (hval 4 3 v4 rfl rfl) h4
  have zb4 : Num i4 := bounds_i64 z4
  obtain ⟨ad5, n5, cap5, ks5, rfl, hn5, hK5, hb5⟩ := open_nums (hval 5 23 v5 rfl rfl) h5
  clear hA0 hval0
  try simp only [List.append_nil, List.nil_append] at hW'
  refine (keeps_any W i0 ad1 n1 cap1 ss1 s2 i3 i4 ad5 n5 cap5 ks5 (tabsOf hL) (tabsOf hL).sz zb0 zb3 zb4 hl2 hn1 hb1 hS1 hsb1 hK5 hn5 hb5).mono fun e W' ⟨he, bel⟩ => ?_
  subst he
  have r22 : Tryd.prog.readableRec 22 = true := by kernel_rfl
  have s22 : (22 : TypeId) < Tryd.prog.types.size := of_decide_eq_true (by kernel_rfl)
  have r23 : Tryd.prog.readableRec 23 = true := by kernel_rfl
  have s23 : (23 : TypeId) < Tryd.prog.types.size := of_decide_eq_true (by kernel_rfl)
  exact ⟨_, rfl, _, _, _, [], _, [], hW', trodAll_mk1 (shut_bool Tryd.underlying4 _), (trodAll_cons_mk (shut_int Tryd.underlying3 z0) (trodAll_cons_mk (Below.trod laidOut r22 s22 h1 bel fun x hx => hlt x (by simp [hx])) (trodAll_cons_mk (shut_string Tryd.underlying9 z2) (trodAll_cons_mk (shut_int Tryd.underlying3 z3) (trodAll_cons_mk (shut_int Tryd.underlying3 z4) (trodAll_cons_mk (Below.trod laidOut r23 s23 h5 bel fun x hx => hlt x (by simp [hx])) trodAll_mk0)))))), rfl, bel.frame _, fun h => by cases h⟩

set_option maxRecDepth 100000 in
theorem holds : Rows.SegmentKeepsSaid :=
  OpenClaim.holds_of_wide 3 Tryd.f3 rfl rfl rfl rfl rfl rfl rfl ⟨rfl, rfl, rfl, rfl, rfl⟩ rfl rfl rfl rfl rfl (by kernel_rfl) Tryd.func3 (by kernel_rfl)
    (of_decide_eq_true (by kernel_rfl)) (by unfold Func.isWrapper; first | (rw [if_pos (by decide +kernel)]; kernel_rfl) | (rw [if_neg (by decide +kernel)]; exact ⟨rfl, rfl⟩))
    (fun os started H enc _ => lifted os started H enc)

theorem proved : Rows.SegmentKeepsCardSaid :=
  Claim7.holds_tied_plain_at .later [] [.data, .data, .data, .sentinel, .sentinel, .data] true (true, "f95b95d43857760717316c825e3126e7888ab24a92f180fd804b90b29a1ac989") true holds (fun _ h => by cases h) (by kernel_rfl) (fun _ h => by cases h) segmentKeeps_row_tie rfl ⟨rfl, rfl⟩ (by kernel_rfl) rfl
    (fun f fn hf hfn => by
      obtain rfl : f = 3 := Option.some.inj ((show Tryd.prog.funcNamed "penstock/penstocklaw10.SegmentKeeps" = some 3 by kernel_rfl).symm.trans hf) |>.symm
      obtain rfl : fn = Tryd.f3 := (Option.some.inj (Tryd.func3.symm.trans hfn)).symm
      exact ⟨by kernel_rfl, fun j t ht => by
        rw [Tryd.params3] at ht
        have hm : t ∈ [3, 22, 9, 3, 3, 23] := by simpa using Array.mem_of_getElem? ht
        have hall : ([3, 22, 9, 3, 3, 23].all fun u => !Tryd.prog.wantsStandIn u) = true := by kernel_rfl
        exact (show Tryd.prog.wantsStandIn t = false by simpa using List.all_eq_true.1 hall t hm)⟩)
    (by kernel_rfl)
#print axioms proved
end Go.Proofs.YtcefhcailhediaaDoor.segmentKeeps
