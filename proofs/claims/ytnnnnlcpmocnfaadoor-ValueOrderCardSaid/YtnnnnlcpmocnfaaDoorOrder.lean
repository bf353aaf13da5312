/- The tied card of the law ValueOrder is proved: for every three values, the law returns true, and each argument reads afterwards as it did; no condition of ours beside what the card lists. -/
import Derived.Test.YtnnnnlcpmocnfaaDoorRows
import Derived.Test.YtnnnnlcpmocnfaaDoorCards
import Derived.Test.YtnnnnlcpmocnfaaDoorTie
import Derived.Test.YtnnnnlcpmocnfaaDoorOrdn3
import Derived.Test.YtnnnnlcpmocnfaaDoorOrdn4
import Derived.Test.YtnnnnlcpmocnfaaDoorOrdn1
import Derived.Test.YtnnnnlcpmocnfaaDoorOrdnn
import Derived.Test.YtnnnnlcpmocnfaaDoorOrdn0
import Derived.SizedLaws
import Derived.ProofKit
import Derived.OpenShut
import Derived.ShutString
import Derived.LaidMore
import Derived.Lay
import Derived.Carry
import Derived.SevenTiedAt
import Derived.Stop.Joined
namespace Go.Proofs.YtnnnnlcpmocnfaaDoor.valueOrder
open Go.ChangeShapes Go.WideShapes Go.ChangeAt Go.RowKit
set_option linter.unusedVariables false
set_option linter.unusedSimpArgs false

theorem own : ownKnob Tryd.prog.godebug = none := by kernel_rfl
theorem laidOut : laidOutB Tryd.prog = true := by kernel_rfl

set_option maxRecDepth 100000 in
theorem walk (ka : Int) (sa : ByteArray) (ba : Bool) (na : Int) (fa : Nat) (pa qa : Value) (kb : Int) (sb : ByteArray) (bb : Bool) (nb : Int) (fb : Nat) (pb qb : Value) (kc : Int) (sc : ByteArray) (bc : Bool) (nc : Int) (fc : Nat) (pc qc : Value)
    (hna : -9223372036854775808 ≤ na ∧ na ≤ 9223372036854775807) (hnb : -9223372036854775808 ≤ nb ∧ nb ≤ 9223372036854775807) (hnc : -9223372036854775808 ≤ nc ∧ nc ≤ 9223372036854775807) (w : World) :
    Calls Tryd.prog 6 #[.agg (gv ka sa ba na fa pa qa), .agg (gv kb sb bb nb fb pb qb), .agg (gv kc sc bc nc fc pc qc)] w fun e w' => e = .returned (.bool true) ∧ Below w.heap.size w w' := by
  have hl := cmpV_lawful ka sa na fa kb sb nb fb kc sc nc fc
  have h1 := fun W => compare_any ka sa ba na fa pa qa kb sb bb nb fb pb qb hna hnb W
  have h2 := fun W => compare_any kb sb bb nb fb pb qb ka sa ba na fa pa qa hnb hna W
  have h3 := fun W => compare_any ka sa ba na fa pa qa ka sa ba na fa pa qa hna hna W
  have h4 := fun W => compare_any kb sb bb nb fb pb qb kc sc bc nc fc pc qc hnb hnc W
  have h5 := fun W => compare_any ka sa ba na fa pa qa kc sc bc nc fc pc qc hna hnc W
  have e3 : cmpV ka sa na fa ka sa na fa = (0, isNum ka fa) := by
    obtain ⟨_, _, e, e', _⟩ := hl
    exact Prod.ext e' e
  rw [e3] at hl h3
  have fin : ∀ b, isNum ka fa = b → _ → _ := fun b e (go : (∀ W, Calls Tryd.prog 13 #[.agg (gv ka sa ba na fa pa qa), .agg (gv ka sa ba na fa pa qa)] W fun e w' => e = .returned (.tuple #[.int .i64 0, .bool b]) ∧ Below W.heap.size W w') →
      lawful (cmpV ka sa na fa kb sb nb fb).1 (cmpV ka sa na fa kb sb nb fb).2 (cmpV kb sb nb fb ka sa na fa).1 (cmpV kb sb nb fb ka sa na fa).2 0 b b (cmpV kb sb nb fb kc sc nc fc).1 (cmpV kb sb nb fb kc sc nc fc).2 (cmpV ka sa na fa kc sc nc fc).1 (cmpV ka sa na fa kc sc nc fc).2 →
      Calls Tryd.prog 6 #[.agg (gv ka sa ba na fa pa qa), .agg (gv kb sb bb nb fb pb qb), .agg (gv kc sc bc nc fc pc qc)] w fun e w' => e = .returned (.bool true) ∧ Below w.heap.size w w') => by
    rw [e] at h3 hl
    exact go h3 hl
  unfold isNum at fin
  cases k3 : (ka == 3)
  · cases k4 : (ka == 4)
    · cases k1 : (ka == 1)
      · exact fin false (by rw [k3, k4, k1]; rfl) fun h3 hl => walk_n0 ka sa ba na fa pa qa kb sb bb nb fb pb qb kc sc bc nc fc pc qc w k3 k4 k1 _ _ _ _ _ _ _ _ h1 h2 h3 h4 h5 hl
      · exact fin true (by rw [k3, k4, k1]; rfl) fun h3 hl => walk_n1 ka sa ba na fa pa qa kb sb bb nb fb pb qb kc sc bc nc fc pc qc w k3 k4 k1 _ _ _ _ _ _ _ _ h1 h2 h3 h4 h5 hl
    · have k1 : (ka == 1) = false := by
        have := eq_of_beq k4
        subst this
        rfl
      cases k5 : (FloatKind.f64.format.order fa fa == some .eq)
      · exact fin false (by rw [k3, k4, k5, k1]; rfl) fun h3 hl => walk_nn ka sa ba na fa pa qa kb sb bb nb fb pb qb kc sc bc nc fc pc qc w k3 k4 k5 k1 _ _ _ _ _ _ _ _ h1 h2 h3 h4 h5 hl
      · exact fin true (by rw [k3, k4, k5]; rfl) fun h3 hl => walk_n4 ka sa ba na fa pa qa kb sb bb nb fb pb qb kc sc bc nc fc pc qc w k3 k4 k5 _ _ _ _ _ _ _ _ h1 h2 h3 h4 h5 hl
  · exact fin true (by rw [k3]; rfl) fun h3 hl => walk_n3 ka sa ba na fa pa qa kb sb bb nb fb pb qb kc sc bc nc fc pc qc w k3 _ _ _ _ _ _ _ _ h1 h2 h3 h4 h5 hl

theorem trod_float {H : Type} {enc : TypeId × Value → H} {w : World} {base : Nat} {spare : Nat → Bool} {held : Bool} {k : FloatKind} {t : TypeId} {fuel : Nat} {cs : List Value} {x : DataW H × List MemPlace} (ht : Tryd.prog.underlying t = some (.float k)) (h : DataW.trod enc Tryd.prog w base spare held fuel t cs = some x) :
    ∃ b, cs = [.float k b] ∧ (Lit.float k b).wf = true := by
  cases fuel with
  | zero => simp [DataW.trod] at h
  | succ n =>
    unfold DataW.trod at h
    rw [ht] at h
    split at h <;> simp_all
set_option maxRecDepth 100000 in
/-- a value, opened -/
theorem open_value {H : Type} {enc : TypeId × Value → H} {w : World} {base : Nat} {spare : Nat → Bool} {held : Bool} {r : Reach} {b0 : Nat} {v : Value} {d : DataW H} {p : List MemPlace}
    (hv : Value.okWide Tryd.prog w r b0 27 v) (h : DataW.Trod enc Tryd.prog w base spare held 27 v d p) :
    ∃ k s b n f q1 q2, v = .agg (gv k s b n f q1 q2) ∧ (-9223372036854775808 ≤ n ∧ n ≤ 9223372036854775807) := by
  obtain ⟨cs, rfl, hsz⟩ := okWide_struct Tryd.underlying27 hv
  have h7 : Tryd.prog.cellsOf 27 = 7 := by kernel_rfl
  rw [h7] at hsz
  obtain ⟨l⟩ := cs
  simp only [List.size_toArray] at hsz
  match l, hsz with
  | [c0, c1, c2, c3, c4, c5, c6], _ =>
    obtain ⟨fuel, hf⟩ := h
    obtain ⟨xs, n, _, _, _, hlen, hall⟩ := DataW.trod_struct Tryd.underlying27 hf
    match xs, hlen with
    | [y0, y1, y2, y3, y4, y5, y6], _ =>
      have g0 := hall 0 _ rfl
      have g1 := hall 1 _ rfl
      have g2 := hall 2 _ rfl
      have g3 := hall 3 _ rfl
      have g4 := hall 4 _ rfl
      have k22 : Tryd.prog.cellsOf 22 = 1 := by kernel_rfl
      have k9 : Tryd.prog.cellsOf 9 = 1 := by kernel_rfl
      have k4 : Tryd.prog.cellsOf 4 = 1 := by kernel_rfl
      have k2 : Tryd.prog.cellsOf 2 = 1 := by kernel_rfl
      have k23 : Tryd.prog.cellsOf 23 = 1 := by kernel_rfl
      simp [Value.cells, k22, k9, k4, k2, k23] at g0 g1 g2 g3 g4
      obtain ⟨k, e0, _, _⟩ := DataW.trod_int Tryd.underlying22 g0
      obtain ⟨s, e1, _, _⟩ := DataW.trod_string Tryd.underlying9 g1
      obtain ⟨b, e2, _⟩ := DataW.trod_bool Tryd.underlying4 g2
      obtain ⟨m, e3, _, hm⟩ := DataW.trod_int Tryd.underlying2 g3
      obtain ⟨f, e4, _⟩ := trod_float Tryd.underlying23 g4
      simp only [List.cons.injEq, and_true] at e0 e1 e2 e3 e4
      subst e0; subst e1; subst e2; subst e3; subst e4
      exact ⟨k, s, b, m, f, c5, c6, rfl, bounds_i64 hm⟩

set_option maxRecDepth 100000 in
theorem lifted (os : Os) (started : os.Started) (H : Type) (enc : TypeId × Value → H) :
    ReturnsInHanded {} Tryd.checked os 6 .any (fun w args => (Rows.valueOrderSpec.pre enc Tryd.prog Tryd.f6 Rows.valueOrderRow.domain false w args ∧ laidMetH Tryd.prog Rows.valueOrderRow.laid w) ∧ sizedMet enc Tryd.prog Tryd.f6 (OpenSpec.ofChange Rows.valueOrderSpec) false w args)
      (Rows.valueOrderSpec.post enc Tryd.prog Tryd.f6 false true false false) := by
  refine returnsInHanded_of_change_and (C := Tryd.checked) (X := fun w _ => laidMetH Tryd.prog Rows.valueOrderRow.laid w) (fun _ _ _ hh h => h.of_heap hh) own started (by kernel_rfl) Tryd.func6
    (ChangeSpec.witness_shaped (enc := enc) (C := Tryd.checked) (os := os) (X := fun w _ => laidMetH Tryd.prog Rows.valueOrderRow.laid w) false (World.laidAll Tryd.prog os Rows.valueOrderRow.laid) #[.agg (gv 0 ⟨#[]⟩ false 0 0 (.slice none 0 0) (.slice none 0 0)), .agg (gv 0 ⟨#[]⟩ false 0 0 (.slice none 0 0) (.slice none 0 0)), .agg (gv 0 ⟨#[]⟩ false 0 0 (.slice none 0 0) (.slice none 0 0))] 8 (World.laidAll_os _ _ _)
      (World.shaped_of_ZipB (by kernel_rfl) (by kernel_rfl)) (by kernel_rfl) (by kernel_rfl) (by kernel_rfl)
      (by rw [MakeChecks.laidMetH_plain _ _ _ (by kernel_rfl)]; exact laidMet_laidAll _ (by kernel_rfl) (by kernel_rfl))) ?_
  intro W base args ds gs before hval0 hW hcnd0 hsz0 hL _
  have hval : ∀ (j : Nat) t v, Tryd.f6.params[j]? = some t → args[j]? = some v → Value.okWide Tryd.prog W .any base t v := hval0
  have hlt := fun x hx => hW.lt x hx
  have hW' := hW
  obtain ⟨p, q, hA0, hV, rfl, hfz, hnd⟩ := hW
  have hA : DataW.TrodAll enc Tryd.prog W 0 (fun _ => true) true Tryd.f6.params.toList args.toList ds p := hA0
  rw [Tryd.params6] at hA hval
  obtain ⟨v0, vs0, d0, ds0, p0, q0, hargs, rfl, rfl, h0, r0⟩ := trodAll_cons hA
  obtain ⟨v1, vs1, d1, ds1, p1, q1, rfl, rfl, rfl, h1, r1⟩ := trodAll_cons r0
  obtain ⟨v2, vs2, d2, ds2, p2, q2, rfl, rfl, rfl, h2, r2⟩ := trodAll_cons r1
  obtain ⟨rfl, rfl, rfl⟩ := trodAll_nil r2
  obtain rfl : args = #[v0, v1, v2] := by cases args; simp_all
  obtain ⟨rfl, rfl⟩ := trodVars_none hV
  obtain ⟨ka, sa, ba, na, fa, pa, qa, rfl, hna⟩ := open_value (hval 0 27 v0 rfl rfl) h0
  obtain ⟨kb, sb, bb, nb, fb, pb, qb, rfl, hnb⟩ := open_value (hval 1 27 v1 rfl rfl) h1
  obtain ⟨kc, sc, bc, nc, fc, pc, qc, rfl, hnc⟩ := open_value (hval 2 27 v2 rfl rfl) h2
  clear hA0 hval0
  refine (walk ka sa ba na fa pa qa kb sb bb nb fb pb qb kc sc bc nc fc pc qc hna hnb hnc W).mono fun e W' ⟨he, bel⟩ => ?_
  subst he
  have r27 : Tryd.prog.readableRec 27 = true := by kernel_rfl
  have s27 : (27 : TypeId) < Tryd.prog.types.size := of_decide_eq_true (by kernel_rfl)
  exact ⟨_, rfl, _, _, _, [], _, [], hW', trodAll_mk1 (shut_bool Tryd.underlying4 _), trodAll_mk3 (Below.trod laidOut r27 s27 h0 bel fun x hx => hlt x (by simp [hx])) (Below.trod laidOut r27 s27 h1 bel fun x hx => hlt x (by simp [hx])) (Below.trod laidOut r27 s27 h2 bel fun x hx => hlt x (by simp [hx])), rfl, bel.frame _, fun h => by cases h⟩

set_option maxRecDepth 100000 in
theorem holds : Rows.ValueOrderSaid :=
  OpenClaim.holds_of_wide 6 Tryd.f6 rfl rfl rfl rfl rfl rfl rfl ⟨rfl, rfl, rfl, rfl, rfl⟩ rfl rfl rfl rfl rfl (by kernel_rfl) Tryd.func6 (by kernel_rfl)
    (of_decide_eq_true (by kernel_rfl)) (by unfold Func.isWrapper; first | (rw [if_pos (by decide +kernel)]; kernel_rfl) | (rw [if_neg (by decide +kernel)]; exact ⟨rfl, rfl⟩))
    (fun os started H enc _ => lifted os started H enc)

theorem proved : Rows.ValueOrderCardSaid :=
  Claim7.holds_tied_plain_at .later [] [.data, .pinned] true (true, "7373c1efbab3d802bc26fc9f45abaebeb7947f160a877160c81e9c24ffab6772") true holds (fun _ h => by cases h) (by kernel_rfl) (fun _ h => by cases h) valueOrder_row_tie rfl ⟨rfl, rfl⟩ (by kernel_rfl) rfl
    (fun f fn hf hfn => by
      obtain rfl : f = 6 := Option.some.inj ((show Tryd.prog.funcNamed "penstock/penstocklaw02.ValueOrder" = some 6 by kernel_rfl).symm.trans hf) |>.symm
      obtain rfl : fn = Tryd.f6 := (Option.some.inj (Tryd.func6.symm.trans hfn)).symm
      exact ⟨by kernel_rfl, fun j t ht => by
        rw [Tryd.params6] at ht
        have hm : t ∈ [27, 27, 27] := by simpa using Array.mem_of_getElem? ht
        have hall : ([27, 27, 27].all fun u => !Tryd.prog.wantsStandIn u) = true := by kernel_rfl
        exact (show Tryd.prog.wantsStandIn t = false by simpa using List.all_eq_true.1 hall t hm)⟩)
    (by kernel_rfl)
#print axioms proved
end Go.Proofs.YtnnnnlcpmocnfaaDoor.valueOrder
