/- The tied card of the law QueueKept is proved: for every two numbers, every steps, two numbers, a step and every numbers within the form's own reach, the law returns true, and each argument reads afterwards as it did; no condition of ours beside what the card lists. -/
import Derived.Test.YtlgbehagflnfgaaGreatDoorRows
import Derived.Test.YtlgbehagflnfgaaGreatDoorCards
import Derived.Test.YtlgbehagflnfgaaGreatDoorTie
import Derived.Test.YtlgbehagflnfgaaGreatDoorKay
import Derived.SizedLaws
import Derived.ProofKit
import Derived.OpenShut
import Derived.ShutString
import Derived.LaidMore
import Derived.Lay
import Derived.Carry
import Derived.SevenTiedAt
import Derived.Stop.Joined
namespace Go.Proofs.YtlgbehagflnfgaaGreatDoor.queueKept
open Go.ChangeShapes Go.WideShapes Go.ChangeAt Go.RowKit
open Go.ChangeMaps (open_string shut_string)
set_option linter.unusedVariables false
set_option linter.unusedSimpArgs false

theorem own : ownKnob Tryz.prog.godebug = none := by kernel_rfl
theorem laidOut : laidOutB Tryz.prog = true := by kernel_rfl

set_option maxRecDepth 100000 in
theorem tabsOf {w : World} (h : laidMetH Tryz.prog Rows.queueKeptRow.laid w) : Tabs w := by
 rw [MakeChecks.laidMetH_plain _ _ _ (by kernel_rfl)] at h
 exact seg_tabs h (by simp [Rows.queueKeptRow]) (by simp [Rows.queueKeptRow]) (by simp [Rows.queueKeptRow]) (by simp [Rows.queueKeptRow])

set_option maxRecDepth 100000 in
theorem lifted (os : Os) (started : os.Started) (H : Type) (enc : TypeId × Value → H) :
  ReturnsInHanded {} Tryz.checked os 4 .any (fun w args => (Rows.queueKeptSpec.pre enc Tryz.prog Tryz.f4 Rows.queueKeptRow.domain false w args ∧ laidMetH Tryz.prog Rows.queueKeptRow.laid w) ∧ sizedMet enc Tryz.prog Tryz.f4 (OpenSpec.ofChange Rows.queueKeptSpec) false w args)
   (Rows.queueKeptSpec.post enc Tryz.prog Tryz.f4 false true false false) := by
 refine returnsInHanded_of_change_and (C := Tryz.checked) (X := fun w _ => laidMetH Tryz.prog Rows.queueKeptRow.laid w) (fun _ _ _ hh h => h.of_heap hh) own started (by kernel_rfl) Tryz.func4
  (ChangeSpec.witness_shaped (enc := enc) (C := Tryz.checked) (os := os) (X := fun w _ => laidMetH Tryz.prog Rows.queueKeptRow.laid w) false (World.laidAll Tryz.prog os Rows.queueKeptRow.laid) #[.int .i64 0, .int .i64 0, .slice none 0 0, .int .i64 0, .int .i64 0, .agg #[.int .u8 0, .string ByteArray.empty, .int .u64 0], .slice none 0 0] 8 (World.laidAll_os _ _ _)
   (World.shaped_of_ZipB (by kernel_rfl) (by kernel_rfl)) (by kernel_rfl) (by kernel_rfl) (by kernel_rfl)
   (by rw [MakeChecks.laidMetH_plain _ _ _ (by kernel_rfl)]; exact laidMet_laidAll _ (by kernel_rfl) (by kernel_rfl))) ?_
 intro W base args ds gs before hval0 hW hcnd0 hsz0 hL _
 have hval : ∀ (j : Nat) t v, Tryz.f4.params[j]? = some t → args[j]? = some v → Value.okWide Tryz.prog W .any base t v := hval0
 have hlt := fun x hx => hW.lt x hx
 have hW' := hW
 obtain ⟨p, q, hA0, hV, rfl, hfz, hnd⟩ := hW
 have hA : DataW.TrodAll enc Tryz.prog W 0 (fun _ => true) true Tryz.f4.params.toList args.toList ds p := hA0
 rw [Tryz.params4] at hA hval
 obtain ⟨v0, vs0, d0, ds0, p0, q0, hargs, rfl, rfl, h0, r0⟩ := trodAll_cons hA
 obtain ⟨v1, vs1, d1, ds1, p1, q1, rfl, rfl, rfl, h1, r1⟩ := trodAll_cons r0
 obtain ⟨v2, vs2, d2, ds2, p2, q2, rfl, rfl, rfl, h2, r2⟩ := trodAll_cons r1
 obtain ⟨v3, vs3, d3, ds3, p3, q3, rfl, rfl, rfl, h3, r3⟩ := trodAll_cons r2
 obtain ⟨v4, vs4, d4, ds4, p4, q4, rfl, rfl, rfl, h4, r4⟩ := trodAll_cons r3
 obtain ⟨v5, vs5, d5, ds5, p5, q5, rfl, rfl, rfl, h5, r5⟩ := trodAll_cons r4
 obtain ⟨v6, vs6, d6, ds6, p6, q6, rfl, rfl, rfl, h6, r6⟩ := trodAll_cons r5
 obtain ⟨rfl, rfl, rfl⟩ := trodAll_nil r6
 obtain rfl : args = #[v0, v1, v2, v3, v4, v5, v6] := by cases args; simp_all
 obtain ⟨rfl, rfl⟩ := trodVars_none hV
 have hsz := hsz0
 try rw [Tryz.params4] at hsz
 obtain ⟨i0, rfl, rfl, rfl, z0⟩ := open_int Tryz.underlying3 (hval 0 3 v0 rfl rfl) h0
 have zb0 : Num i0 := bounds_i64 z0
 obtain ⟨i1, rfl, rfl, rfl, z1⟩ := open_int Tryz.underlying3 (hval 1 3 v1 rfl rfl) h1
 have zb1 : Num i1 := bounds_i64 z1
 obtain ⟨ad2, n2, cap2, xs2, rfl, hn2, hS2, hb2, hF2⟩ := open_steps (hval 2 46 v2 rfl rfl) h2 (fun k hk => of_decide_eq_true (List.all_eq_true.1 hsz k (DataW.weights_mem_each (j := 2) rfl rfl k hk)))
 obtain ⟨i3, rfl, rfl, rfl, z3⟩ := open_int Tryz.underlying3 (hval 3 3 v3 rfl rfl) h3
 have zb3 : Num i3 := bounds_i64 z3
 obtain ⟨i4, rfl, rfl, rfl, z4⟩ := open_int Tryz.underlying3 (hval 4 3 v4 rfl rfl) h4
 have zb4 : Num i4 := bounds_i64 z4
 obtain ⟨k5, dt5, sq5, rfl, hdt5, hsq5, _, _⟩ := open_qstep (hval 5 33 v5 rfl rfl) h5 (fun k hk => of_decide_eq_true (List.all_eq_true.1 hsz k (DataW.weights_mem_each (j := 5) rfl rfl k hk)))
 obtain ⟨ad6, n6, cap6, ks6, rfl, hn6, hK6, hb6⟩ := open_nums (hval 6 47 v6 rfl rfl) h6
 clear hA0 hval0
 try simp only [List.append_nil, List.nil_append] at hW'
 refine (kept_any W i0 i1 ad2 n2 cap2 xs2 i3 i4 k5 dt5 sq5 ad6 n6 cap6 ks6 zb0 zb1 zb3 zb4 hn2 hb2 hS2 hF2 hdt5 hsq5 hK6 hn6 hb6 (tabsOf hL) (tabsOf hL).sz).mono fun e W' ⟨he, bel⟩ => ?_
 subst he
 have r33 : Tryz.prog.readableRec 33 = true := by kernel_rfl
 have s33 : (33 : TypeId) < Tryz.prog.types.size := of_decide_eq_true (by kernel_rfl)
 have r46 : Tryz.prog.readableRec 46 = true := by kernel_rfl
 have s46 : (46 : TypeId) < Tryz.prog.types.size := of_decide_eq_true (by kernel_rfl)
 have r47 : Tryz.prog.readableRec 47 = true := by kernel_rfl
 have s47 : (47 : TypeId) < Tryz.prog.types.size := of_decide_eq_true (by kernel_rfl)
 exact ⟨_, rfl, _, _, _, [], _, [], hW', trodAll_mk1 (shut_bool Tryz.underlying4 _), (trodAll_cons_mk (shut_int Tryz.underlying3 z0) (trodAll_cons_mk (shut_int Tryz.underlying3 z1) (trodAll_cons_mk (Below.trod laidOut r46 s46 h2 bel fun x hx => hlt x (by simp [hx])) (trodAll_cons_mk (shut_int Tryz.underlying3 z3) (trodAll_cons_mk (shut_int Tryz.underlying3 z4) (trodAll_cons_mk (Below.trod laidOut r33 s33 h5 bel fun x hx => hlt x (by simp [hx])) (trodAll_cons_mk (Below.trod laidOut r47 s47 h6 bel fun x hx => hlt x (by simp [hx])) trodAll_mk0))))))), rfl, bel.frame _, fun h => by cases h⟩

set_option maxRecDepth 100000 in
theorem holds : Rows.QueueKeptSaid :=
 OpenClaim.holds_of_wide 4 Tryz.f4 rfl rfl rfl rfl rfl rfl rfl ⟨rfl, rfl, rfl, rfl, rfl⟩ rfl rfl rfl rfl rfl (by kernel_rfl) Tryz.func4 (by kernel_rfl)
  (of_decide_eq_true (by kernel_rfl)) (by unfold Func.isWrapper; first | (rw [if_pos (by decide +kernel)]; kernel_rfl) | (rw [if_neg (by decide +kernel)]; exact ⟨rfl, rfl⟩))
  (fun os started H enc _ => lifted os started H enc)

theorem proved : Rows.QueueKeptCardSaid :=
 Claim7.holds_tied_plain_at .later [] [.data, .data, .data, .sentinel, .sentinel, .data] true (true, "f9e879a6d7b05857cad1f4b5153e8166df83786c4a7590ebcf9b1084d61c0e5a") true holds (fun _ h => by cases h) (by kernel_rfl) (fun _ h => by cases h) queueKept_row_tie rfl ⟨rfl, rfl⟩ (by kernel_rfl) rfl
  (fun f fn hf hfn => by
   obtain rfl : f = 4 := Option.some.inj ((show Tryz.prog.funcNamed "penstock/penstocklaw11.QueueKept" = some 4 by kernel_rfl).symm.trans hf) |>.symm
   obtain rfl : fn = Tryz.f4 := (Option.some.inj (Tryz.func4.symm.trans hfn)).symm
   exact ⟨by kernel_rfl, fun j t ht => by
    rw [Tryz.params4] at ht
    have hm : t ∈ [3, 3, 46, 3, 3, 33, 47] := by simpa using Array.mem_of_getElem? ht
    have hall : ([3, 3, 46, 3, 3, 33, 47].all fun u => !Tryz.prog.wantsStandIn u) = true := by kernel_rfl
    exact (show Tryz.prog.wantsStandIn t = false by simpa using List.all_eq_true.1 hall t hm)⟩)
  (by kernel_rfl)
#print axioms proved
end Go.Proofs.YtlgbehagflnfgaaGreatDoor.queueKept
