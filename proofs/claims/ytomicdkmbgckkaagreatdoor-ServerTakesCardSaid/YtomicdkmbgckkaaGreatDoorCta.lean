/- The tied card of the law ServerTakes is proved: for every connection, rules, text and time within the form's own reach, the law returns true, and each argument reads afterwards as it did; no condition of ours beside what the card lists. -/
import Derived.Test.YtomicdkmbgckkaaGreatDoorRows
import Derived.Test.YtomicdkmbgckkaaGreatDoorCards
import Derived.Test.YtomicdkmbgckkaaGreatDoorTie
import Derived.Test.YtomicdkmbgckkaaGreatDoorGar
import Derived.Test.YtomicdkmbgckkaaGreatDoorGat
import Derived.Test.YtomicdkmbgckkaaGreatDoorGax
import Derived.SizedLaws
import Derived.ProofKit
import Derived.OpenShut
import Derived.ShutString
import Derived.LaidMore
import Derived.Lay
import Derived.Carry
import Derived.SevenTiedAt
import Derived.Stop.Joined
namespace Go.Proofs.YtomicdkmbgckkaaGreatDoor.serverTakes
open Go.ChangeShapes Go.WideShapes Go.ChangeAt Go.RowKit
open Go.ChangeMaps (open_string shut_string)
set_option linter.unusedVariables false
set_option linter.unusedSimpArgs false

theorem own : ownKnob Tryz.prog.godebug = none := by kernel_rfl
theorem laidOut : laidOutB Tryz.prog = true := by kernel_rfl

set_option maxRecDepth 100000 in
theorem tabsOf {w : World} (hs : w.ShapedOpen Tryz.prog) (h : laidMetH Tryz.prog Rows.serverTakesRow.laid w) : Tabs w := by
  rw [MakeChecks.laidMetH_plain _ _ _ (by kernel_rfl)] at h
  exact http_tabs hs h (by simp [Rows.serverTakesRow]) (by simp [Rows.serverTakesRow]) (by simp [Rows.serverTakesRow]) (by simp [Rows.serverTakesRow])

set_option maxRecDepth 100000 in
theorem lifted (os : Os) (started : os.Started) (H : Type) (enc : TypeId × Value → H) :
    ReturnsInHanded {} Tryz.checked os 4 .any (fun w args => (Rows.serverTakesSpec.pre enc Tryz.prog Tryz.f4 Rows.serverTakesRow.domain false w args ∧ laidMetH Tryz.prog Rows.serverTakesRow.laid w) ∧ sizedMet enc Tryz.prog Tryz.f4 (OpenSpec.ofChange Rows.serverTakesSpec) false w args)
      (Rows.serverTakesSpec.post enc Tryz.prog Tryz.f4 false true false false) := by
  refine handed_and_shaped (C := Tryz.checked) (X := fun w _ => laidMetH Tryz.prog Rows.serverTakesRow.laid w) (fun _ _ _ hh h => h.of_heap hh) own started (by kernel_rfl) Tryz.func4
    (ChangeSpec.witness_shaped (enc := enc) (C := Tryz.checked) (os := os) (X := fun w _ => laidMetH Tryz.prog Rows.serverTakesRow.laid w) false (World.laidAll Tryz.prog os Rows.serverTakesRow.laid) #[.agg #[.string ByteArray.empty, .string ByteArray.empty, .bool false, .bool false, .bool false, .int .u64 0], .agg #[.int .i64 0, .int .u64 0], .string ByteArray.empty, .int .u64 0] 8 (World.laidAll_os _ _ _)
      (World.shaped_of_ZipB (by kernel_rfl) (by kernel_rfl)) (by kernel_rfl) (by kernel_rfl) (by kernel_rfl)
      (by rw [MakeChecks.laidMetH_plain _ _ _ (by kernel_rfl)]; exact laidMet_laidAll _ (by kernel_rfl) (by kernel_rfl))) ?_
  intro W base args ds gs before hval0 hW hcnd0 hsz0 hL hSh _
  have hval : ∀ (j : Nat) t v, Tryz.f4.params[j]? = some t → args[j]? = some v → Value.okWide Tryz.prog W .any base t v := hval0
  have hlt := fun x hx => hW.lt x hx
  have hW' := hW
  obtain ⟨p, q, hA0, hV, rfl, hfz, hnd⟩ := hW
  have hA : DataW.TrodAll enc Tryz.prog W 0 (fun _ => true) true Tryz.f4.params.toList args.toList ds p := hA0
  rw [Tryz.params4] at hA hval
  obtain ⟨v0, vs0, d0, ds0, p0, q0, hargs, rfl, rfl, h0, r0⟩ := trodAll_cons hA
  obtain ⟨v1, vs1, d1, ds1, p1, q1, rfl, rfl, rfl, h1, r1⟩ := trodAll_cons r0
  obtain ⟨v2, vs2, d2, ds2, p2, q2, rfl, rfl, rfl, h2, r2⟩ := trodAll_cons r1
  obtain ⟨v3, vs3, d3, ds3, p3, q3, rfl, rfl, rfl, h3, r3⟩ := trodAll_cons r2
  obtain ⟨rfl, rfl, rfl⟩ := trodAll_nil r3
  obtain rfl : args = #[v0, v1, v2, v3] := by cases args; simp_all
  obtain ⟨rfl, rfl⟩ := trodVars_none hV
  have hsz := hsz0
  try rw [Tryz.params4] at hsz
  obtain ⟨c0, rfl, hc0⟩ := open_conn (hval 0 24 v0 rfl rfl) h0
  obtain ⟨m1, id1, rfl, hr1⟩ := open_rules (hval 1 26 v1 rfl rfl) h1
  have hw2 := (fun k hk => of_decide_eq_true (List.all_eq_true.1 hsz k (DataW.weights_mem_each (j := 2) rfl rfl k hk)) : ∀ k ∈ d2.weights Tryz.prog 9, k ≤ reachBytes)
  obtain ⟨s2, rfl, rfl, rfl, z2⟩ := open_string Tryz.underlying9 (hval 2 9 v2 rfl rfl) h2
  have hs2 : s2.size ≤ 140737488355000 := by
    have h47 : s2.size ≤ reachBytes := hw2 _ (by simp [DataW.weights, DataW.weightsEach, Tryz.underlying9])
    have : reachBytes = 140737488351232 := rfl
    omega
  obtain ⟨i3, rfl, rfl, rfl, z3⟩ := open_int Tryz.underlying22 (hval 3 22 v3 rfl rfl) h3
  have zb3 := bounds_u64 z3
  clear hA0 hval0
  try simp only [List.append_nil, List.nil_append] at hW'
  refine (takes_str W c0 m1 id1 i3 s2 hs2 (tabsOf hSh hL)).mono fun e W' ⟨he, bel⟩ => ?_
  subst he
  have r24 : Tryz.prog.readableRec 24 = true := by kernel_rfl
  have s24 : (24 : TypeId) < Tryz.prog.types.size := of_decide_eq_true (by kernel_rfl)
  have r26 : Tryz.prog.readableRec 26 = true := by kernel_rfl
  have s26 : (26 : TypeId) < Tryz.prog.types.size := of_decide_eq_true (by kernel_rfl)
  exact ⟨_, rfl, _, _, _, [], _, [], hW', trodAll_mk1 (shut_bool Tryz.underlying4 _), (trodAll_cons_mk (Below.trod laidOut r24 s24 h0 bel fun x hx => hlt x (by simp [hx])) (trodAll_cons_mk (Below.trod laidOut r26 s26 h1 bel fun x hx => hlt x (by simp [hx])) (trodAll_cons_mk (shut_string Tryz.underlying9 z2) (trodAll_cons_mk (shut_int Tryz.underlying22 z3) trodAll_mk0)))), rfl, bel.frame _, fun h => by cases h⟩

set_option maxRecDepth 100000 in
theorem holds : Rows.ServerTakesSaid :=
  OpenClaim.holds_of_wide 4 Tryz.f4 rfl rfl rfl rfl rfl rfl rfl ⟨rfl, rfl, rfl, rfl, rfl⟩ rfl rfl rfl rfl rfl (by kernel_rfl) Tryz.func4 (by kernel_rfl)
    (of_decide_eq_true (by kernel_rfl)) (by unfold Func.isWrapper; first | (rw [if_pos (by decide +kernel)]; kernel_rfl) | (rw [if_neg (by decide +kernel)]; exact ⟨rfl, rfl⟩))
    (fun os started H enc _ => lifted os started H enc)

theorem proved : Rows.ServerTakesCardSaid :=
  Claim7.holds_tied_plain_at .later [] [.data, .data, .data, .data, .sentinel, .sentinel, .pinned] true (true, "0c6f74bd167e3f7ffb394556ab4633cc74bc0578d10dfecb97980633c19c3fc5") true holds (fun _ h => by cases h) (by kernel_rfl) (fun _ h => by cases h) serverTakes_row_tie rfl ⟨rfl, rfl⟩ (by kernel_rfl) rfl
    (fun f fn hf hfn => by
      obtain rfl : f = 4 := Option.some.inj ((show Tryz.prog.funcNamed "penstock/penstocklaw08.ServerTakes" = some 4 by kernel_rfl).symm.trans hf) |>.symm
      obtain rfl : fn = Tryz.f4 := (Option.some.inj (Tryz.func4.symm.trans hfn)).symm
      exact ⟨by kernel_rfl, fun j t ht => by
        rw [Tryz.params4] at ht
        have hm : t ∈ [24, 26, 9, 22] := by simpa using Array.mem_of_getElem? ht
        have hall : ([24, 26, 9, 22].all fun u => !Tryz.prog.wantsStandIn u) = true := by kernel_rfl
        exact (show Tryz.prog.wantsStandIn t = false by simpa using List.all_eq_true.1 hall t hm)⟩)
    (by kernel_rfl)
#print axioms proved
end Go.Proofs.YtomicdkmbgckkaaGreatDoor.serverTakes
