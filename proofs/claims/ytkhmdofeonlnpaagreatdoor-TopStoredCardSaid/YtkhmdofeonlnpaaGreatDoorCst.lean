/- The tied card of the law TopStored is proved: for every number, every texts, number and every numbers within the form's own reach, the law returns true, and each argument reads afterwards as it did; no condition of ours beside what the card lists. -/
import Derived.Test.YtkhmdofeonlnpaaGreatDoorRows
import Derived.Test.YtkhmdofeonlnpaaGreatDoorCards
import Derived.Test.YtkhmdofeonlnpaaGreatDoorTie
import Derived.Test.YtkhmdofeonlnpaaGreatDoorGaw
import Derived.Test.YtkhmdofeonlnpaaGreatDoorGay
import Derived.SizedLaws
import Derived.ProofKit
import Derived.OpenShut
import Derived.ShutString
import Derived.LaidMore
import Derived.Lay
import Derived.Carry
import Derived.SevenTiedAt
import Derived.Stop.Joined
namespace Go.Proofs.YtkhmdofeonlnpaaGreatDoor.topStored
open Go.ChangeShapes Go.WideShapes Go.ChangeAt Go.RowKit
open Go.ChangeMaps (open_string shut_string)
set_option linter.unusedVariables false
set_option linter.unusedSimpArgs false

theorem own : ownKnob Tryz.prog.godebug = none := by kernel_rfl
theorem laidOut : laidOutB Tryz.prog = true := by kernel_rfl

set_option maxRecDepth 100000 in
theorem tabsOf {w : World} (h : laidMetH Tryz.prog Rows.topStoredRow.laid w) : Tabs w := by
  rw [MakeChecks.laidMetH_plain _ _ _ (by kernel_rfl)] at h
  exact seg_tabs h (by simp [Rows.topStoredRow]) (by simp [Rows.topStoredRow]) (by simp [Rows.topStoredRow]) (by simp [Rows.topStoredRow])

set_option maxRecDepth 100000 in
theorem lifted (os : Os) (started : os.Started) (H : Type) (enc : TypeId × Value → H) :
    ReturnsInHanded {} Tryz.checked os 4 .any (fun w args => (Rows.topStoredSpec.pre enc Tryz.prog Tryz.f4 Rows.topStoredRow.domain false w args ∧ laidMetH Tryz.prog Rows.topStoredRow.laid w) ∧ sizedMet enc Tryz.prog Tryz.f4 (OpenSpec.ofChange Rows.topStoredSpec) false w args)
      (Rows.topStoredSpec.post enc Tryz.prog Tryz.f4 false true false false) := by
  refine returnsInHanded_of_change_and (C := Tryz.checked) (X := fun w _ => laidMetH Tryz.prog Rows.topStoredRow.laid w) (fun _ _ _ hh h => h.of_heap hh) own started (by kernel_rfl) Tryz.func4
    (ChangeSpec.witness_shaped (enc := enc) (C := Tryz.checked) (os := os) (X := fun w _ => laidMetH Tryz.prog Rows.topStoredRow.laid w) false (World.laidAll Tryz.prog os Rows.topStoredRow.laid) #[.int .i64 0, .slice none 0 0, .int .i64 0, .slice none 0 0] 8 (World.laidAll_os _ _ _)
      (World.shaped_of_ZipB (by kernel_rfl) (by kernel_rfl)) (by kernel_rfl) (by kernel_rfl) (by kernel_rfl)
      (by rw [MakeChecks.laidMetH_plain _ _ _ (by kernel_rfl)]; exact laidMet_laidAll _ (by kernel_rfl) (by kernel_rfl))) ?_
  intro W base args ds gs before hval0 hW hcnd0 hsz0 hL _
  have hval : ∀ (j : Nat) t v, Tryz.f4.params[j]? = some t → args[j]? = some v → Value.okWide Tryz.prog W .any base t v := hval0
  have hlt := fun x hx => hW.lt x hx
  have hW' := hW
  obtain ⟨p, q, hA0, hV, rfl, hfz, hnd⟩ := hW
  have hA : DataW.TrodAll enc Tryz.prog W 0 (fun _ => true) true Tryz.f4.params.toList args.toList ds p := hA0
  rw [Tryz.params4] at hA hval
  obtain ⟨v0, vs0, d0, ds0, p0, q0, hargs, rfl, rfl, h0, r0⟩ := trodAll_cons hA
  obtain ⟨v1, vs1, d1, ds1, p1, q1, rfl, rfl, rfl, h1, r1⟩ := trodAll_cons r0
  obtain ⟨v2, vs2, d2, ds2, p2, q2, rfl, rfl, rfl, h2, r2⟩ := trodAll_cons r1
  obtain ⟨v3, vs3, d3, ds3, p3, q3, rfl, rfl, rfl, h3, r3⟩ := trodAll_cons r2
  obtain ⟨rfl, rfl, rfl⟩ := trodAll_nil r3
  obtain rfl : args = #[v0, v1, v2, v3] := by cases args; simp_all
  obtain ⟨rfl, rfl⟩ := trodVars_none hV
  have hsz := hsz0
  try rw [Tryz.params4] at hsz
  obtain ⟨i0, rfl, rfl, rfl, z0⟩ := open_int Tryz.underlying3 (hval 0 3 v0 rfl rfl) h0
  have zb0 : Num i0 := bounds_i64 z0
  obtain ⟨ad1, n1, cap1, ss1, rfl, hn1, hS1, hb1, hsb1⟩ := open_texts_wt (hval 1 46 v1 rfl rfl) h1 (fun k hk => of_decide_eq_true (List.all_eq_true.1 hsz k (DataW.weights_mem_each (j := 1) rfl rfl k hk)))
  obtain ⟨i2, rfl, rfl, rfl, z2⟩ := open_int Tryz.underlying3 (hval 2 3 v2 rfl rfl) h2
  have zb2 : Num i2 := bounds_i64 z2
  obtain ⟨ad3, n3, cap3, ks3, rfl, hn3, hK3, hb3⟩ := open_nums (hval 3 47 v3 rfl rfl) h3
  clear hA0 hval0
  try simp only [List.append_nil, List.nil_append] at hW'
  refine (stored_any W i0 ad1 n1 cap1 ss1 i2 ad3 n3 cap3 ks3 zb0 hn1 hb1 hS1 hsb1 zb2 hK3 hn3 hb3 (tabsOf hL) (tabsOf hL).sz).mono fun e W' ⟨he, bel⟩ => ?_
  subst he
  have r46 : Tryz.prog.readableRec 46 = true := by kernel_rfl
  have s46 : (46 : TypeId) < Tryz.prog.types.size := of_decide_eq_true (by kernel_rfl)
  have r47 : Tryz.prog.readableRec 47 = true := by kernel_rfl
  have s47 : (47 : TypeId) < Tryz.prog.types.size := of_decide_eq_true (by kernel_rfl)
  exact ⟨_, rfl, _, _, _, [], _, [], hW', trodAll_mk1 (shut_bool Tryz.underlying4 _), (trodAll_cons_mk (shut_int Tryz.underlying3 z0) (trodAll_cons_mk (Below.trod laidOut r46 s46 h1 bel fun x hx => hlt x (by simp [hx])) (trodAll_cons_mk (shut_int Tryz.underlying3 z2) (trodAll_cons_mk (Below.trod laidOut r47 s47 h3 bel fun x hx => hlt x (by simp [hx])) trodAll_mk0)))), rfl, bel.frame _, fun h => by cases h⟩

set_option maxRecDepth 100000 in
theorem holds : Rows.TopStoredSaid :=
  OpenClaim.holds_of_wide 4 Tryz.f4 rfl rfl rfl rfl rfl rfl rfl ⟨rfl, rfl, rfl, rfl, rfl⟩ rfl rfl rfl rfl rfl (by kernel_rfl) Tryz.func4 (by kernel_rfl)
    (of_decide_eq_true (by kernel_rfl)) (by unfold Func.isWrapper; first | (rw [if_pos (by decide +kernel)]; kernel_rfl) | (rw [if_neg (by decide +kernel)]; exact ⟨rfl, rfl⟩))
    (fun os started H enc _ => lifted os started H enc)

theorem proved : Rows.TopStoredCardSaid :=
  Claim7.holds_tied_plain_at .later [] [.data, .data, .data, .data, .sentinel, .sentinel, .data, .pinned] true (true, "cc2bf501cd3bb360e635e689e8e71509cb6c36146d7c9deffc991dce6dae1162") true holds (fun _ h => by cases h) (by kernel_rfl) (fun _ h => by cases h) topStored_row_tie rfl ⟨rfl, rfl⟩ (by kernel_rfl) rfl
    (fun f fn hf hfn => by
      obtain rfl : f = 4 := Option.some.inj ((show Tryz.prog.funcNamed "penstock/penstocktop.TopStored" = some 4 by kernel_rfl).symm.trans hf) |>.symm
      obtain rfl : fn = Tryz.f4 := (Option.some.inj (Tryz.func4.symm.trans hfn)).symm
      exact ⟨by kernel_rfl, fun j t ht => by
        rw [Tryz.params4] at ht
        have hm : t ∈ [3, 46, 3, 47] := by simpa using Array.mem_of_getElem? ht
        have hall : ([3, 46, 3, 47].all fun u => !Tryz.prog.wantsStandIn u) = true := by kernel_rfl
        exact (show Tryz.prog.wantsStandIn t = false by simpa using List.all_eq_true.1 hall t hm)⟩)
    (by kernel_rfl)
#print axioms proved
end Go.Proofs.YtkhmdofeonlnpaaGreatDoor.topStored
