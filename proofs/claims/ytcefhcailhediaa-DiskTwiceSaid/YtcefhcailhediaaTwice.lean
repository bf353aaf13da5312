/- The statement of the law DiskTwice is proved: for every disk, every two lists of numbers and every step within the form's own reach, the law returns true, and each argument reads afterwards as it did; no condition of ours. -/
import Derived.Test.YtcefhcailhediaaRows
import Derived.Test.YtcefhcailhediaaMth2
import Derived.Test.YtcefhcailhediaaOpn
import Derived.Test.YtcefhcailhediaaSam
namespace Go.Proofs.Ytcefhcailhediaa.diskTwice
open Go.ChangeShapes Go.WideShapes Go.ChangeAt Go.RowKit
open Go.ChangeMaps (open_string shut_string)
set_option linter.unusedVariables false
set_option linter.unusedSimpArgs false
attribute [local go_sem] run_store_func run_store_nilf
theorem own : ownKnob Try.prog.godebug = none := by kernel_rfl

set_option maxHeartbeats 8000000 in
theorem walk (w : World) (ad : Option Addr) (n cap : Nat) (down : Bool) (fuse fault : Int) (fs : List F) (adk : Option Addr) (nk capk : Nat) (ks : List Int) (adm : Option Addr) (nm capm : Nat) (ms : List Int) (k : Int) (sn sd : ByteArray) (z : Int) (h : DIn w ad n cap fuse fault fs)
    (hk : Ints w w.heap.size adk ks) (hnk : nk = ks.length) (hnk63 : nk ≤ 9223372036854775807) (hm : Ints w w.heap.size adm ms) (hnm : nm = ms.length) (hnm63 : nm ≤ 9223372036854775807) (hsn : sn.size ≤ 9223372036854775807) (hsd : sd.size ≤ 9223372036854775807) :
    Calls Try.prog 7 #[.agg (dcells (.slice ad n cap) down fuse fault), .slice adk nk capk, .slice adm nm capm, .agg (scells k sn sd z)] w fun e w' => e = .returned (.bool true) ∧ Below w.heap.size w w' := by
  have hb0 : Below w.heap.size w ((w.alloc (.cells (dcells (.slice ad n cap) down fuse fault) 24)).alloc (.cells (scells k sn sd z) 27)) := ((Below.refl _ w).alloc (Nat.le_refl _) _).alloc (by simp) _
  have hx : ((w.alloc (.cells (dcells (.slice ad n cap) down fuse fault) 24)).alloc (.cells (scells k sn sd z) 27)).heap[w.heap.size]? = some (.cells (dcells (.slice ad n cap) down fuse fault) 24) := blk_alloc (blk_new w _) _
  have hy : ((w.alloc (.cells (dcells (.slice ad n cap) down fuse fault) 24)).alloc (.cells (scells k sn sd z) 27)).heap[w.heap.size + 1]? = some (.cells (scells k sn sd z) 27) := by
    have := blk_new (w.alloc (.cells (dcells (.slice ad n cap) down fuse fault) 24)) (.cells (scells k sn sd z) 27)
    simpa using this
  have Hb0 := Lib.hid hb0
  have Hx := Lib.hid hx
  have Hy := Lib.hid hy
  have H := Lib.hid h
  have Hk := Lib.hid hk
  have Hm := Lib.hid hm
  have Hnk := Lib.hid hnk
  have Hnm := Lib.hid hnm
  by_cases hR : Right fs
  · have hc1 : crv ⟨fs, down, fuse, fault⟩ ks = (⟨crashL ks fs, false, -1, -1⟩, 0) := crv_right hR
    have hc2 : crv ⟨crashL ks fs, false, -1, -1⟩ ms = (⟨crashL ks fs, false, -1, -1⟩, 0) := by rw [crv_right (right_crash hR ks)]; simp only [crashL_again hR]
    obtain ⟨gs, c, hdo, c17, c18, hgs⟩ := doo_free (right_crash hR ks) ⟨k, sn, sd, z⟩
    have hfit : ∀ f ∈ crashL ks fs, Fit f := fun f hf => okF_fit ((right_crash hR ks).ok f hf)
    have hlen : (crashL ks fs).length ≤ 64 := (right_crash hR ks).1
    obtain ⟨cs, hcs⟩ : ∃ cs, crashL ks fs = cs := ⟨_, rfl⟩
    rw [hcs] at hc1 hc2 hdo hfit hlen
    have Hc1 := Lib.hid hc1
    have Hc2 := Lib.hid hc2
    have Hdo := Lib.hid hdo
    have Hfit := Lib.hid hfit
    have Hlen := Lib.hid hlen
    have e17 : (c == 17) = false := by simp [c17]
    have e18 : (c == 18) = false := by simp [c18]
    have en17 : (c != 17) = true := by simp [c17]
    have en18 : (c != 18) = true := by simp [c18]
    clear h hb0 hx hy hk hm hnk hnm hR hc1 hc2 hdo hfit hlen hcs hgs c17 c18
    go_enter Try.func7, Try.ntmps7
    go_wp2_with fail
    refine (lives_any _).mono ?_
    rintro e w1 ⟨rfl, hb1⟩
    have hX1 := (hb1.block _ (Array.getElem?_eq_some_iff.1 Hx.out).1).trans Hx.out
    have hY1 := (hb1.block _ (Array.getElem?_eq_some_iff.1 Hy.out).1).trans Hy.out
    obtain ⟨x0, x1, x2, x3⟩ := box4 hX1
    have HY1 := Lib.hid hY1
    have Hb1 := Lib.hid (Hb0.out.trans (hb1.mono Hb0.out.size))
    clear hb1 hX1 hY1
    go_wp2_with fail
    refine (Crash_any _ ad n cap down fuse fault fs (H.out.under Hb1.out) adk nk capk ks ((Hk.out.keep Hb1.out).mono Hb1.out.size) Hnk.out hnk63).mono ?_
    rw [Hc1.out]
    rintro e w2 ⟨ad2, n2, cap2, rfl, hi, hb2, hf⟩
    have HV := Lib.hid (Var.new (down := false) (fuse := -1) (fault := -1) hi)
    have hal := (Below.refl w2.heap.size w2).alloc (Nat.le_refl _) (.cells (dcells (.slice ad2 n2 cap2) false (-1) (-1)) 24)
    have Hb2 := Lib.hid (Hb1.out.trans (hb2.mono Hb1.out.size))
    have Hb3 := Lib.hid (Hb2.out.trans (hal.mono Hb2.out.size))
    have HY3 := Lib.hid ((hal.block _ (Array.getElem?_eq_some_iff.1 ((hb2.block _ (Array.getElem?_eq_some_iff.1 HY1.out).1).trans HY1.out)).1).trans ((hb2.block _ (Array.getElem?_eq_some_iff.1 HY1.out).1).trans HY1.out))
    obtain ⟨⟨v0, v1, v2, v3⟩, _⟩ := HV.out.d.facts
    clear hi hb2 hf hal x0 x1 x2 x3
    go_wp2_with fail
    refine (Crash_any _ ad2 n2 cap2 false (-1) (-1) _ (DIn.one HV.out.i Hfit.out) adm nm capm ms ((Hm.out.keep Hb3.out).mono Hb3.out.size) Hnm.out hnm63).mono ?_
    rw [Hc2.out]
    rintro e w4 ⟨ad4, n4, cap4, rfl, hi, hb4, hf⟩
    have hal := (Below.refl w4.heap.size w4).alloc (Nat.le_refl _) (.cells (dcells (.slice ad4 n4 cap4) false (-1) (-1)) 24)
    have HV5 := Lib.hid ((HV.out.under hb4).under hal)
    have HV4 := Lib.hid (Var.new (down := false) (fuse := -1) (fault := -1) hi)
    have Hb4 := Lib.hid (Hb3.out.trans (hb4.mono Hb3.out.size))
    have Hb5 := Lib.hid (Hb4.out.trans (hal.mono Hb4.out.size))
    have HY5 := Lib.hid ((hal.block _ (Array.getElem?_eq_some_iff.1 ((hb4.block _ (Array.getElem?_eq_some_iff.1 HY3.out).1).trans HY3.out)).1).trans ((hb4.block _ (Array.getElem?_eq_some_iff.1 HY3.out).1).trans HY3.out))
    obtain ⟨⟨u0, u1, u2, u3⟩, _⟩ := HV5.out.d.facts
    obtain ⟨⟨t0, t1, t2, t3⟩, _⟩ := HV4.out.d.facts
    have hlt5 := HV5.out.d.lt
    have Hs := Lib.hid (same_yes _ ad2 ad4 n2 cap2 n4 cap4 false (-1) (-1) cs HV5.out.i HV4.out.i (by have := HV5.out.i.1; have := Hlen.out; omega))
    clear hi hb4 hf hal v0 v1 v2 v3
    go_wp2_with fail
    refine (Hs.out).mono ?_
    rintro e w6 ⟨rfl, hb6⟩
    have HV6 := Lib.hid (HV5.out.under hb6)
    have hY6 := (hb6.block _ (Array.getElem?_eq_some_iff.1 HY5.out).1).trans HY5.out
    have Hb6 := Lib.hid (Hb5.out.trans (hb6.mono Hb5.out.size))
    obtain ⟨⟨r0, r1, r2, r3⟩, _⟩ := HV6.out.d.facts
    obtain ⟨y0, y1, y2, y3⟩ := box4 hY6
    clear hb6 hY6 u0 u1 u2 u3 t0 t1 t2 t3
    go_wp2_with fail
    refine (Do_any _ ad2 n2 cap2 false (-1) (-1) _ k sn sd z (DIn.one HV6.out.i Hfit.out) hsn hsd).mono ?_
    rw [Hdo.out]
    rintro e w7 ⟨ad7, n7, cap7, rfl, hi, hb7, hf⟩
    have Hb7 := Lib.hid ((Hb6.out.trans (hb7.mono Hb6.out.size)).alloc (Nat.le_trans Hb6.out.size hb7.size) (.cells (dcells (.slice ad7 n7 cap7) false (-1) (-1)) 24))
    clear hi hb7 hf r0 r1 r2 r3 y0 y1 y2 y3
    go_wp2
    go_ret
    exact ⟨rfl, Hb7.out⟩
  · have hc1 : crv ⟨fs, down, fuse, fault⟩ ks = (⟨[], false, 0, 0⟩, 6) := by unfold crv; rw [if_neg hR]; rfl
    have Hc1 := Lib.hid hc1
    have HR := Lib.hid hR
    clear h hb0 hx hy hk hm hnk hnm hR hc1
    go_enter Try.func7, Try.ntmps7
    go_wp2_with fail
    refine (lives_any _).mono ?_
    rintro e w1 ⟨rfl, hb1⟩
    have hX1 := (hb1.block _ (Array.getElem?_eq_some_iff.1 Hx.out).1).trans Hx.out
    obtain ⟨x0, x1, x2, x3⟩ := box4 hX1
    have HX1 := Lib.hid hX1
    have Hb1 := Lib.hid (Hb0.out.trans (hb1.mono Hb0.out.size))
    clear hb1 hX1
    go_wp2_with fail
    refine (Crash_any _ ad n cap down fuse fault fs (H.out.under Hb1.out) adk nk capk ks ((Hk.out.keep Hb1.out).mono Hb1.out.size) Hnk.out hnk63).mono ?_
    rw [Hc1.out]
    rintro e w2 ⟨ad2, n2, cap2, rfl, hi, hb2, hf⟩
    have hn2 : n2 = 0 := hi.1
    have hal := (Below.refl w2.heap.size w2).alloc (Nat.le_refl _) (.cells (dcells (.slice ad2 n2 cap2) false 0 0) 24)
    have Hb2 := Lib.hid (Hb1.out.trans (hb2.mono Hb1.out.size))
    have Hb3 := Lib.hid (Hb2.out.trans (hal.mono Hb2.out.size))
    have hX3 := (hal.block _ (Array.getElem?_eq_some_iff.1 ((hb2.block _ (Array.getElem?_eq_some_iff.1 HX1.out).1).trans HX1.out)).1).trans ((hb2.block _ (Array.getElem?_eq_some_iff.1 HX1.out).1).trans HX1.out)
    obtain ⟨z0, z1, z2, z3⟩ := box4 hX3
    subst hn2
    have hD3 := H.out.under Hb3.out
    have Hck := Lib.hid (check_no _ ad cap n down fuse fault fs hD3.i.1 hD3.i.2.2.2 hD3.fit HR.out)
    clear hi hb2 hf hal hX3 hD3 x0 x1 x2 x3
    go_wp2_with fail
    refine (Hck.out).mono ?_
    rintro e w4 ⟨rfl, hb4⟩
    have Hb4 := Lib.hid (Hb3.out.trans (hb4.mono Hb3.out.size))
    clear hb4
    go_wp2
    go_ret
    exact ⟨rfl, Hb4.out⟩
theorem laidOut : laidOutB Try.prog = true := by kernel_rfl

set_option maxRecDepth 100000 in
theorem lifted (os : Os) (started : os.Started) (H : Type) (enc : TypeId × Value → H) :
    ReturnsInHanded {} Try.checked os 7 .any (Rows.diskTwiceSpec.pre6 enc Try.prog Try.f7 Rows.diskTwiceRow.domain false) (Rows.diskTwiceSpec.post enc Try.prog Try.f7 false true false false) := by
  refine returnsInHanded_of_change (C := Try.checked) own started (by kernel_rfl) Try.func7
    (ChangeSpec.witness6 (enc := enc) (C := Try.checked) false ⟨#[], #[.agg #[.slice none 0 0, .bool false, .int .i64 0, .int .i64 0], .slice none 0 0, .slice none 0 0, .agg #[.int .u8 0, .string ByteArray.empty, .string ByteArray.empty, .int .i64 0]], []⟩ 8 (by kernel_rfl) (by kernel_rfl) (by kernel_rfl) (by kernel_rfl)) ?_
  intro W base args ds gs before hval0 hW hcnd _
  have hval : ∀ (j : Nat) t v, Try.f7.params[j]? = some t → args[j]? = some v → Value.okWide Try.prog W .any base t v := hval0
  have hW' := hW
  obtain ⟨p, q, hA0, hV, rfl, hfz, hnd⟩ := hW
  have hA : DataW.TrodAll enc Try.prog W 0 (fun _ => true) true Try.f7.params.toList args.toList ds p := hA0
  rw [Try.params7] at hA hval
  obtain ⟨v0, vs0, d0, ds0, p0, q0, hargs, rfl, rfl, h0, r0⟩ := trodAll_cons hA
  obtain ⟨v1, vs1, d1, ds1, p1, q1, rfl, rfl, rfl, h1, r1⟩ := trodAll_cons r0
  obtain ⟨v2, vs2, d2, ds2, p2, q2, rfl, rfl, rfl, h2, r2⟩ := trodAll_cons r1
  obtain ⟨v3, vs3, d3, ds3, p3, q3, rfl, rfl, rfl, h3, r3⟩ := trodAll_cons r2
  obtain ⟨rfl, rfl, rfl⟩ := trodAll_nil r3
  obtain rfl : args = #[v0, v1, v2, v3] := by cases args; simp_all
  obtain ⟨rfl, rfl⟩ := trodVars_none hV
  have k0 := h0
  have lt0 : ∀ x ∈ p0, x.block < W.heap.size := by obtain ⟨m, hm⟩ := k0; exact DataW.trod_lt m _ _ _ hm
  have k1 := h1
  have lt1 : ∀ x ∈ p1, x.block < W.heap.size := by obtain ⟨m, hm⟩ := k1; exact DataW.trod_lt m _ _ _ hm
  have k2 := h2
  have lt2 : ∀ x ∈ p2, x.block < W.heap.size := by obtain ⟨m, hm⟩ := k2; exact DataW.trod_lt m _ _ _ hm
  have k3 := h3
  have lt3 : ∀ x ∈ p3, x.block < W.heap.size := by obtain ⟨m, hm⟩ := k3; exact DataW.trod_lt m _ _ _ hm
  obtain ⟨ad, n, cap, down, fuse, fault, fs, rfl, hD⟩ := open_disk (hval 0 24 v0 rfl rfl) h0
  obtain ⟨ad1, n1, cap1, ks, rfl, hn1, hi1, hl1⟩ := open_nums (hval 1 28 v1 rfl rfl) h1
  obtain ⟨ad2, n2, cap2, ms, rfl, hn2, hi2, hl2⟩ := open_nums (hval 2 28 v2 rfl rfl) h2
  obtain ⟨k, nm, dt, z, rfl, hn, hd, _, _, _, _⟩ := open_step (hval 3 27 v3 rfl rfl) h3
  clear hA0 hval0
  refine (walk W ad n cap down fuse fault fs ad1 n1 cap1 ks ad2 n2 cap2 ms k nm dt z hD hi1 hn1 hl1 hi2 hn2 hl2 hn hd).mono fun e W' ⟨he, bel⟩ => ?_
  subst he
  exact ⟨_, rfl, _, _, _, [], _, [], hW', trodAll_mk1 (shut_bool Try.underlying4 _), (trodAll_cons_mk (Below.trod laidOut (by kernel_rfl) (of_decide_eq_true (by kernel_rfl)) k0 bel lt0) (trodAll_cons_mk (Below.trod laidOut (by kernel_rfl) (of_decide_eq_true (by kernel_rfl)) k1 bel lt1) (trodAll_cons_mk (Below.trod laidOut (by kernel_rfl) (of_decide_eq_true (by kernel_rfl)) k2 bel lt2) (trodAll_cons_mk (Below.trod laidOut (by kernel_rfl) (of_decide_eq_true (by kernel_rfl)) k3 bel lt3) trodAll_mk0)))), rfl, bel.frame _, fun h => by cases h⟩

theorem over : Rows.diskTwiceRow.holds Try.pinned (OpenSpec.ofChange Rows.diskTwiceSpec) :=
  OpenClaim.holds_of_wide 7 Try.f7 rfl rfl rfl rfl rfl rfl rfl ⟨rfl, rfl, rfl, rfl, rfl⟩ rfl rfl rfl rfl rfl (by kernel_rfl) Try.func7 (by kernel_rfl)
    (of_decide_eq_true (by kernel_rfl)) (by unfold Func.isWrapper; rw [if_neg (by decide +kernel)]; exact ⟨rfl, rfl⟩)
    (fun os started H enc _ => lifted os started H enc)

theorem proved : Rows.DiskTwiceSaid := over
#print axioms proved
end Go.Proofs.Ytcefhcailhediaa.diskTwice
