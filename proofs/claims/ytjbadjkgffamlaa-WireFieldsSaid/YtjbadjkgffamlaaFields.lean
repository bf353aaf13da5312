/- The statement of the law WireFields is proved: for every field and every text within the form's own reach, the law returns true, and each argument reads afterwards as it did; no condition of ours. -/
import Derived.Test.YtjbadjkgffamlaaRows
import Derived.Test.YtjbadjkgffamlaaLive
import Derived.Test.YtjbadjkgffamlaaMath3
import Derived.ProofKit
import Derived.OpenShut
import Derived.ShutString
import Derived.SizedLaws
import Derived.Lib.SmallJoins
namespace Go.Proofs.Ytjbadjkgffamlaa.wireFields
open Go.ChangeShapes Go.WideShapes Go.ChangeAt Go.RowKit
open Go.ChangeMaps (open_string shut_string)
open Go.Joins
set_option linter.unusedVariables false
set_option linter.unusedSimpArgs false

theorem own : ownKnob Try.prog.godebug = none := by kernel_rfl

theorem write_one_any (w : World) (f : M.Fd) (a b c : Int) (l : List UInt8) (hf : Fit f a b c l) : Calls Try.prog 20 #[.slice (some ⟨w.heap.size, 0, none⟩) 1 1] (w.alloc (.cells (fcells a b c l) 39)) fun e w' =>
    e = .returned (.tuple #[.string ⟨(M.wr [f]).2.toArray⟩, .int .i64 (M.wr [f]).1]) ∧ Below w.heap.size w w' := by
  have hx := box4 (blk_new w (.cells (fcells a b c l) 39))
  have hfl : Flds (w.alloc (.cells (fcells a b c l) 39)) (w.alloc (.cells (fcells a b c l) 39)).heap.size (some ⟨w.heap.size, 0, none⟩) [f] := by
    refine ⟨by simp, fun _ => ⟨w.heap.size, 0, rfl, by simp, fun i g hg => ?_⟩⟩
    match i, hg with
    | 0, hg =>
      simp at hg
      subst hg
      exact ⟨a, b, c, l, hf, ⟨hx.1, hx.2.1, hx.2.2.1, hx.2.2.2⟩⟩
  have h := write_short _ (some ⟨w.heap.size, 0, none⟩) 1 1 [f] rfl hfl (by decide)
  exact h.mono fun e w' ⟨he, hb⟩ => ⟨he, ((Below.refl _ _).alloc (Nat.le_refl _) _).trans (hb.mono (by simp))⟩

theorem wr_one (f : M.Fd) : M.wr [f] = if M.may f then (if 65536 < (M.enc1 f).length then (4, []) else (0, M.enc1 f)) else (2, []) := by
  have he : M.enc [f] = M.enc1 f := by rw [M.enc_cons, M.enc_nil, List.append_nil]
  rw [M.wr, if_neg (by simp), he]
  cases h : M.may f <;> simp [h]

set_option maxHeartbeats 4000000 in
theorem walk_bad (f : M.Fd) (a b c : Int) (l rest : List UInt8) (hf : Fit f a b c l) (hl : rest.length ≤ 140737488351232) (w : World) (hm : M.may f = false) :
    Calls Try.prog 9 #[.agg (fcells a b c l), .string ⟨rest.toArray⟩] w fun e w' => e = .returned (.bool true) ∧ Below w.heap.size w w' := by
  have hW := fun W => write_one_any W f a b c l hf
  rw [wr_one, hm] at hW
  simp only [Bool.false_eq_true, if_false] at hW
  have hS : ∀ W, Calls Try.prog 25 #[.agg (fcells a b c l)] W fun e w' => e = .returned (.int .i64 0) ∧ Below W.heap.size W w' := fun W =>
    size_no a b c l W hf.b0 hf.b1 hf.c0 (by have := hf.hl; omega) (by rw [← hf.e]; exact hm)
  have HW := Lib.hid hW
  have HS := Lib.hid hS
  clear hW hS hm hf hl
  go_enter Try.func9, Try.ntmps9
  go_wp2_with fail
  refine (lives_any _).mono ?_
  rintro e w1 ⟨rfl, hb1⟩
  have hx1 := (hb1.block w.heap.size (by simp)).trans (blk_new w _)
  obtain ⟨q0, q1, q2, q3⟩ := box4 hx1
  have Hb1 := Lib.hid (((Below.refl _ w).alloc (Nat.le_refl _) _).trans (hb1.mono (by simp)))
  have Hx1 := Lib.hid hx1
  have hs1 : w.heap.size < w1.heap.size := (Array.getElem?_eq_some_iff.1 hx1).1
  clear hb1 hx1
  go_wp2_with fail
  refine (HW.out w1).mono ?_
  rintro e w2 ⟨rfl, hb2⟩
  have hx2 := (hb2.block w.heap.size hs1).trans Hx1.out
  obtain ⟨r0, r1, r2, r3⟩ := box4 hx2
  have Hb2 := Lib.hid hb2
  clear hb2 hx2 q0 q1 q2 q3
  go_wp2_with fail
  refine (HS.out w2).mono ?_
  rintro e w3 ⟨rfl, hb3⟩
  have Hb3 := Lib.hid hb3
  clear hb3
  go_wp2
  go_ret
  have h1 := Hb1.out
  exact ⟨rfl, (h1.trans (Hb2.out.mono h1.size)).trans (Hb3.out.mono (Nat.le_trans h1.size Hb2.out.size))⟩

set_option maxHeartbeats 4000000 in
theorem walk_long (f : M.Fd) (a b c : Int) (l rest : List UInt8) (hf : Fit f a b c l) (hl : rest.length ≤ 140737488351232) (w : World) (hm : M.may f = true) (hbig : 65536 < (M.enc1 f).length) :
    Calls Try.prog 9 #[.agg (fcells a b c l), .string ⟨rest.toArray⟩] w fun e w' => e = .returned (.bool true) ∧ Below w.heap.size w w' := by
  have hW := fun W => write_one_any W f a b c l hf
  rw [wr_one, hm] at hW
  simp only [hbig, if_true] at hW
  obtain ⟨z, hz⟩ : ∃ z : Int, z = ((M.enc1 f).length : Int) := ⟨_, rfl⟩
  have hS : ∀ W, Calls Try.prog 25 #[.agg (fcells a b c l)] W fun e w' => e = .returned (.int .i64 z) ∧ Below W.heap.size W w' := fun W => by
    rw [hz, hf.e]
    exact size_yes a b c l W hf.b0 hf.b1 hf.c0 hf.c1 (by have := hf.hl; omega) (by rw [← hf.e]; exact hm)
  have hzb : 65536 < z := by omega
  have HW := Lib.hid hW
  have HS := Lib.hid hS
  clear hW hS hm hf hl hz hbig
  go_enter Try.func9, Try.ntmps9
  go_wp2_with fail
  refine (lives_any _).mono ?_
  rintro e w1 ⟨rfl, hb1⟩
  have hx1 := (hb1.block w.heap.size (by simp)).trans (blk_new w _)
  obtain ⟨q0, q1, q2, q3⟩ := box4 hx1
  have Hb1 := Lib.hid (((Below.refl _ w).alloc (Nat.le_refl _) _).trans (hb1.mono (by simp)))
  have Hx1 := Lib.hid hx1
  have hs1 : w.heap.size < w1.heap.size := (Array.getElem?_eq_some_iff.1 hx1).1
  clear hb1 hx1
  go_wp2_with fail
  refine (HW.out w1).mono ?_
  rintro e w2 ⟨rfl, hb2⟩
  have hx2 := (hb2.block w.heap.size hs1).trans Hx1.out
  obtain ⟨r0, r1, r2, r3⟩ := box4 hx2
  have Hb2 := Lib.hid hb2
  clear hb2 hx2 q0 q1 q2 q3
  go_wp2_with fail
  refine (HS.out w2).mono ?_
  rintro e w3 ⟨rfl, hb3⟩
  have Hb3 := Lib.hid hb3
  clear hb3
  go_wp2
  go_ret
  have h1 := Hb1.out
  exact ⟨rfl, (h1.trans (Hb2.out.mono h1.size)).trans (Hb3.out.mono (Nat.le_trans h1.size Hb2.out.size))⟩

set_option maxHeartbeats 4000000 in
theorem walk_good (f : M.Fd) (a b c : Int) (l rest : List UInt8) (hf : Fit f a b c l) (hl : rest.length ≤ 140737488351232) (w : World) (hm : M.may f = true) (hsm : (M.enc1 f).length ≤ 65536) :
    Calls Try.prog 9 #[.agg (fcells a b c l), .string ⟨rest.toArray⟩] w fun e w' => e = .returned (.bool true) ∧ Below w.heap.size w w' := by
  have hW := fun W => write_one_any W f a b c l hf
  rw [wr_one, hm] at hW
  simp only [show ¬ 65536 < (M.enc1 f).length by omega, if_true, if_false] at hW
  obtain ⟨xs, hxs⟩ : ∃ xs, xs = M.enc1 f := ⟨_, rfl⟩
  have hS : ∀ W, Calls Try.prog 25 #[.agg (fcells a b c l)] W fun e w' => e = .returned (.int .i64 (xs.length : Int)) ∧ Below W.heap.size W w' := fun W => by
    rw [hxs, hf.e]
    exact size_yes a b c l W hf.b0 hf.b1 hf.c0 hf.c1 (by have := hf.hl; omega) (by rw [← hf.e]; exact hm)
  have hR : ∀ W, Calls Try.prog 22 #[.string ⟨xs.toArray⟩] W fun e w' => ∃ g off cap, e = .returned (.tuple #[.slice (some ⟨g, off, none⟩) 1 cap, .int .i64 0]) ∧
      (w'.cell? ⟨g, off, none⟩ = some (.int .i64 a) ∧ w'.cell? ⟨g, off + 1, none⟩ = some (.int .u8 b) ∧ w'.cell? ⟨g, off + 2, none⟩ = some (.int .u64 c) ∧ w'.cell? ⟨g, off + 3, none⟩ = some (.string ⟨l.toArray⟩)) ∧ Below W.heap.size W w' := fun W => by
    refine (read_any xs W (by rw [hxs]; omega)).mono fun e w' h => ?_
    obtain ⟨hb, h⟩ := h
    have hre : M.read xs = .ok [f] := by
      have := M.read_enc (l := [f]) (by simp [hm]) (by intro g hg; simp at hg; subst hg; have := hf.c1; have := hf.c0; rw [hf.e]; simp only; omega) (by rw [M.enc_cons, M.enc_nil, List.append_nil]; exact hsm) (by simp)
      rwa [M.enc_cons, M.enc_nil, List.append_nil, ← hxs] at this
    rw [hre] at h
    obtain ⟨v, he, hrow, hfine, _⟩ := h
    obtain ⟨ad, cap, rfl, hfl⟩ := hrow.flds hfine (by simp)
    obtain ⟨g, off, rfl, hg, hi⟩ := hfl.2 (by simp)
    obtain ⟨a', b', c', l', hfit, hat⟩ := hi 0 f rfl
    obtain ⟨rfl, rfl, rfl, rfl⟩ := hfit.uniq hf
    refine ⟨g, off, cap, he, ⟨by simpa using hat.q0, by simpa using hat.q1, by simpa using hat.q2, by simpa using hat.q3⟩, hb⟩
  have hx2 : 1 < (xs.length : Int) := by have := M.enc1_two f hm; rw [← hxs] at this; omega
  rw [← hxs] at hW
  have HW := Lib.hid hW
  have HS := Lib.hid hS
  have HR := Lib.hid hR
  clear hW hS hR hm hf hl hxs hsm
  go_enter Try.func9, Try.ntmps9
  go_wp2_with fail
  refine (lives_any _).mono ?_
  rintro e w1 ⟨rfl, hb1⟩
  have hx1 := (hb1.block w.heap.size (by simp)).trans (blk_new w _)
  obtain ⟨q0, q1, q2, q3⟩ := box4 hx1
  have Hb1 := Lib.hid (((Below.refl _ w).alloc (Nat.le_refl _) _).trans (hb1.mono (by simp)))
  have Hx1 := Lib.hid hx1
  have hs1 : w.heap.size < w1.heap.size := (Array.getElem?_eq_some_iff.1 hx1).1
  clear hb1 hx1
  go_wp2_with fail
  refine (HW.out w1).mono ?_
  rintro e w2 ⟨rfl, hb2⟩
  have hx2 := (hb2.block w.heap.size hs1).trans Hx1.out
  obtain ⟨r0, r1, r2, r3⟩ := box4 hx2
  have Hb2 := Lib.hid hb2
  have Hx2 := Lib.hid hx2
  have hs2 : w.heap.size < w2.heap.size := (Array.getElem?_eq_some_iff.1 hx2).1
  clear hb2 hx2 q0 q1 q2 q3
  go_wp2_with fail
  refine (HS.out w2).mono ?_
  rintro e w3 ⟨rfl, hb3⟩
  have hx3 := (hb3.block w.heap.size hs2).trans Hx2.out
  have hs3 : w.heap.size < w3.heap.size := (Array.getElem?_eq_some_iff.1 hx3).1
  have Hb3 := Lib.hid hb3
  have Hx3 := Lib.hid hx3
  clear hb3 hx3 r0 r1 r2 r3
  go_wp2_with fail
  refine (HR.out w3).mono ?_
  rintro e w4 ⟨g, off, cap, rfl, ⟨p0, p1, p2, p3⟩, hb4⟩
  have hx4 := (hb4.block w.heap.size hs3).trans Hx3.out
  obtain ⟨r0, r1, r2, r3⟩ := box4 hx4
  have Hb4 := Lib.hid hb4
  clear hb4 hx4
  go_wp2
  go_quiet (fail)
  go_wp2
  go_ret
  have h1 := Hb1.out
  have h2 := h1.trans (Hb2.out.mono h1.size)
  have h3 := h2.trans (Hb3.out.mono h2.size)
  have h4 := h3.trans (Hb4.out.mono h3.size)
  exact ⟨rfl, ⟨h4.os, h4.tape, h4.output, h4.size, h4.block⟩⟩

theorem walk (a b c : Int) (l rest : List UInt8) (hb0 : 0 ≤ b) (hb1 : b ≤ 255) (hc0 : 0 ≤ c) (hc1 : c ≤ 18446744073709551615) (ha0 : -9223372036854775808 ≤ a) (ha1 : a ≤ 9223372036854775807) (hl : l.length ≤ 9223372036854775807)
    (hr : rest.length ≤ 140737488351232) (w : World) :
    Calls Try.prog 9 #[.agg (fcells a b c l), .string ⟨rest.toArray⟩] w fun e w' => e = .returned (.bool true) ∧ Below w.heap.size w w' := by
  have hf : Fit ⟨a, b.toNat, c.toNat, l⟩ a b c l := ⟨rfl, hb0, hb1, hc0, hc1, ha0, ha1, hl⟩
  cases hm : M.may ⟨a, b.toNat, c.toNat, l⟩ with
  | false => exact walk_bad _ a b c l rest hf hr w hm
  | true =>
    by_cases hb : 65536 < (M.enc1 ⟨a, b.toNat, c.toNat, l⟩).length
    · exact walk_long _ a b c l rest hf hr w hm hb
    · exact walk_good _ a b c l rest hf hr w hm (by omega)

theorem Try.cells39 : Try.prog.cellsOf 39 = 4 := by kernel_rfl
theorem laidOut : laidOutB Try.prog = true := by kernel_rfl

set_option maxRecDepth 100000 in
theorem lifted (os : Os) (started : os.Started) (H : Type) (enc : TypeId × Value → H) :
    ReturnsInHanded {} Try.checked os 9 .any (Rows.wireFieldsSpec.pre6 enc Try.prog Try.f9 Rows.wireFieldsRow.domain false) (Rows.wireFieldsSpec.post enc Try.prog Try.f9 false true false false) := by
  refine returnsInHanded_of_change_sized (C := Try.checked) own started (by kernel_rfl) Try.func9
    (ChangeSpec.witness6 (enc := enc) (C := Try.checked) false ⟨#[], #[.agg #[.int .i64 0, .int .u8 0, .int .u64 0, .string ByteArray.empty], .string ByteArray.empty], []⟩ 8 (by kernel_rfl) (by kernel_rfl) (by kernel_rfl) (by kernel_rfl)) ?_
  intro W base args ds gs before hval0 hW hcnd0 hsz0 hholds
  have hval : ∀ (j : Nat) t v, Try.f9.params[j]? = some t → args[j]? = some v → Value.okWide Try.prog W .any base t v := hval0
  have hsz : (DataW.weightsEach Try.prog (Try.f9.params.toList ++ Rows.wireFieldsSpec.plain.varTypes Try.prog) (ds ++ gs)).all (· ≤ reachBytes) = true := hsz0
  have hW' := hW
  obtain ⟨p, q, hA0, hV, rfl, hfz, hnd⟩ := hW
  have hA : DataW.TrodAll enc Try.prog W 0 (fun _ => true) true Try.f9.params.toList args.toList ds p := hA0
  rw [Try.params9] at hA hval hsz
  obtain ⟨v0, vs0, d0, ds0, p0, q0, hargs, rfl, rfl, h0, r0⟩ := trodAll_cons hA
  obtain ⟨v1, vs1, d1, ds1, p1, q1, rfl, rfl, rfl, h1, r1⟩ := trodAll_cons r0
  obtain ⟨rfl, rfl, rfl⟩ := trodAll_nil r1
  obtain rfl : args = #[v0, v1] := by cases args; simp_all
  obtain ⟨rfl, rfl⟩ := trodVars_none hV
  obtain ⟨a2, rfl, rfl, rfl, w2⟩ := open_string Try.underlying9 (hval 1 9 v1 rfl rfl) h1
  have hlen : a2.data.toList.length ≤ reachBytes := sized_string hsz (j := 1) (t := 9) rfl rfl
  have k0 := h0
  have lt0 : ∀ x ∈ p0, x.block < W.heap.size := by obtain ⟨m, hm⟩ := k0; exact DataW.trod_lt m _ _ _ hm
  obtain ⟨c0, c1, c2, c3, y0, y1, y2, y3, m, rfl, rfl, rfl, g0, g1, g2, g3⟩ := open_agg4 Try.underlying39 (by kernel_rfl) Try.cells39 (hval 0 39 v0 rfl rfl) h0
  obtain ⟨na, e0, rfl, wa⟩ := DataW.trod_int Try.underlying3 g0
  obtain ⟨nb, e1, rfl, wb⟩ := DataW.trod_int Try.underlying37 g1
  obtain ⟨nc, e2, rfl, wc⟩ := DataW.trod_int Try.underlying22 g2
  obtain ⟨s, e3, rfl, ws⟩ := DataW.trod_string Try.underlying9 g3
  simp only [List.cons.injEq, and_true] at e0 e1 e2 e3
  subst e0 e1 e2 e3
  clear hA0 hval0
  obtain ⟨l, rfl⟩ : ∃ l : List UInt8, a2 = ⟨l.toArray⟩ := ⟨a2.data.toList, by cases a2; simp⟩
  obtain ⟨t, rfl⟩ : ∃ t : List UInt8, s = ⟨t.toArray⟩ := ⟨s.data.toList, by cases s; simp⟩
  have ba := bounds_i64 wa
  have bb := bounds_u8 wb
  have bc := bounds_u64 wc
  refine (walk na nb nc t l bb.1 bb.2 bc.1 bc.2 ba.1 ba.2 (by simpa [ByteArray.size, maxLen] using ws) (by simpa [reachBytes] using hlen) W).mono fun e W' ⟨he, bel⟩ => ?_
  subst he
  exact ⟨_, rfl, _, _, _, [], _, [], hW', trodAll_mk1 (shut_bool Try.underlying4 _), (trodAll_cons_mk (Below.trod laidOut (by kernel_rfl) (of_decide_eq_true (by kernel_rfl)) k0 bel lt0) (trodAll_cons_mk (shut_string Try.underlying9 w2) trodAll_mk0)), rfl, bel.frame _, fun h => by cases h⟩

theorem over : Rows.wireFieldsRow.holds Try.pinned (OpenSpec.ofChange Rows.wireFieldsSpec) :=
  OpenClaim.holds_of_wide 9 Try.f9 rfl rfl rfl rfl rfl rfl rfl ⟨rfl, rfl, rfl, rfl, rfl⟩ rfl rfl rfl rfl rfl (by kernel_rfl) Try.func9 (by kernel_rfl)
    (of_decide_eq_true (by kernel_rfl)) (by unfold Func.isWrapper; rw [if_neg (by decide +kernel)]; exact ⟨rfl, rfl⟩)
    (fun os started H enc _ => lifted os started H enc)

theorem proved : Rows.WireFieldsSaid := over
#print axioms proved
end Go.Proofs.Ytjbadjkgffamlaa.wireFields
