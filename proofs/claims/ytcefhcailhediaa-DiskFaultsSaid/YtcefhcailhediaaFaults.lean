/- The statement of the law DiskFaults is proved: for every disk and every two steps within the form's own reach, the law returns true, and each argument reads afterwards as it did; no condition of ours. -/
import Derived.Test.YtcefhcailhediaaRows
import Derived.Test.YtcefhcailhediaaMth2
import Derived.Test.YtcefhcailhediaaOpn
import Derived.Test.YtcefhcailhediaaMth3
import Derived.Test.YtcefhcailhediaaCpy
namespace Go.Proofs.Ytcefhcailhediaa.diskFaults
open Go.ChangeShapes Go.WideShapes Go.ChangeAt Go.RowKit
open Go.ChangeMaps (open_string shut_string)
set_option linter.unusedVariables false
set_option linter.unusedSimpArgs false
attribute [local go_sem] run_store_func run_store_nilf
theorem own : ownKnob Try.prog.godebug = none := by kernel_rfl

/-- where a change answers that it failed or that the power is off -/
theorem doo_fault {fs : List F} {down : Bool} {fuse fault : Int} {s : S} {gs : List F} {dn : Bool} {fu fa c : Int} (h : doo ⟨fs, down, fuse, fault⟩ s = (⟨gs, dn, fu, fa⟩, c)) (hc : c = 17 ∨ c = 18) :
    Right fs ∧ Right gs ∧ gs.length = fs.length ∧ (s.kind ≠ 2 → gs = fs) ∧ (∀ (i : Nat) (x y : F), gs[i]? = some x → fs[i]? = some y → x = y ∨ (x = ⟨y.name, y.data ++ s.data, y.syn⟩ ∧ y.name = s.name)) ∧ ((c = 18 ∧ fa = -1 ∧ dn = false) ∨ (c = 17 ∧ dn = true)) := by
  unfold doo at h
  by_cases hR : Right fs
  · rw [if_pos hR] at h
    by_cases hk : 1 ≤ s.kind ∧ s.kind ≤ 5
    · rw [if_pos hk] at h
      have same : ∀ (i : Nat) (x y : F), fs[i]? = some x → fs[i]? = some y → x = y ∨ (x = ⟨y.name, y.data ++ s.data, y.syn⟩ ∧ y.name = s.name) := fun i x y h1 h2 => .inl (by rw [h1] at h2; injection h2)
      cases down with
      | true =>
        rw [run_down] at h
        simp only [Prod.mk.injEq, D.mk.injEq] at h
        obtain ⟨⟨rfl, rfl, _, _⟩, rfl⟩ := h
        exact ⟨hR, hR, rfl, fun _ => rfl, same, .inr ⟨rfl, rfl⟩⟩
      | false =>
        by_cases h0 : ref fs s = 0
        · by_cases h1 : fault = 0
          · rw [run_fault h0 h1] at h
            simp only [Prod.mk.injEq, D.mk.injEq] at h
            obtain ⟨⟨rfl, rfl, _, rfl⟩, rfl⟩ := h
            exact ⟨hR, hR, rfl, fun _ => rfl, same, .inl ⟨rfl, rfl, rfl⟩⟩
          · by_cases h2 : fuse = 0
            · rw [run_fuse h0 h1 h2] at h
              simp only [Prod.mk.injEq, D.mk.injEq] at h
              obtain ⟨⟨rfl, rfl, _, _⟩, rfl⟩ := h
              refine ⟨hR, right_half hR hk h0, ?_, ?_, ?_, .inr ⟨rfl, rfl⟩⟩
              · unfold half
                by_cases e : s.kind = 2
                · rw [if_pos e]; unfold eff
                  rw [if_neg (by omega)]
                  cases hf : found fs s.name with
                  | none => rfl
                  | some f => simp [e]
                · rw [if_neg e]
              · intro e; unfold half; rw [if_neg e]
              · unfold half
                by_cases e : s.kind = 2
                · rw [if_pos e]; unfold eff
                  rw [if_neg (by omega)]
                  cases hf : found fs s.name with
                  | none => exact same
                  | some f =>
                    intro i x y hx hy
                    obtain ⟨hp, hn⟩ := found_some hf
                    simp only [if_pos e, List.getElem?_set] at hx
                    split at hx
                    · rename_i hi
                      subst hi
                      rw [hp] at hy
                      injection hy with hy
                      subst hy
                      split at hx
                      · injection hx with hx; exact .inr ⟨hx.symm, hn⟩
                      · cases hx
                    · exact same i x y hx hy
                · rw [if_neg e]; exact same
            · rw [run_done h0 h1 h2] at h
              simp only [Prod.mk.injEq] at h
              omega
        · rw [run_ref h0] at h
          simp only [Prod.mk.injEq] at h
          have := ref_vals fs s
          omega
    · rw [if_neg hk] at h
      simp only [Prod.mk.injEq] at h
      omega
  · rw [if_neg hR] at h
    simp only [Prod.mk.injEq] at h
    omega
theorem doo_dead {gs : List F} {fu fa : Int} (hR : Right gs) (s : S) : ∃ c, doo ⟨gs, true, fu, fa⟩ s = (⟨gs, true, fu, fa⟩, c) ∧ (c = 17 ∨ c = 5) := by
  unfold doo
  rw [if_pos hR]
  by_cases hk : 1 ≤ s.kind ∧ s.kind ≤ 5
  · rw [if_pos hk, run_down]; exact ⟨17, rfl, .inl rfl⟩
  · rw [if_neg hk]; exact ⟨5, rfl, .inr rfl⟩

/-- the boxes of the law -/
structure Fl (w wr : World) (p q : Nat) (ad : Option Addr) (n cap : Nat) (down : Bool) (fuse fault : Int) (fs : List F) (ad2 : Option Addr) (cap2 : Nat) (dn : Bool) (fu fa : Int) (gs : List F) (ad3 : Option Addr) (cap3 : Nat) (S T : Obj) : Prop where
  d : Var wr w.heap.size ad n cap down fuse fault fs
  e : Var wr p ad2 n cap2 dn fu fa gs
  f : Var wr q ad3 n cap3 down fuse fault gs
  s : wr.heap[w.heap.size + 1]? = some S
  t : wr.heap[w.heap.size + 2]? = some T
  b : Below w.heap.size w wr
theorem Fl.under {w wr w' : World} {p q : Nat} {ad : Option Addr} {n cap : Nat} {down : Bool} {fuse fault : Int} {fs : List F} {ad2 : Option Addr} {cap2 : Nat} {dn : Bool} {fu fa : Int} {gs : List F} {ad3 : Option Addr} {cap3 : Nat} {S T : Obj}
    (h : Fl w wr p q ad n cap down fuse fault fs ad2 cap2 dn fu fa gs ad3 cap3 S T) (hb : Below wr.heap.size wr w') : Fl w w' p q ad n cap down fuse fault fs ad2 cap2 dn fu fa gs ad3 cap3 S T :=
  ⟨h.d.under hb, h.e.under hb, h.f.under hb, (hb.block _ (Array.getElem?_eq_some_iff.1 h.s).1).trans h.s, (hb.block _ (Array.getElem?_eq_some_iff.1 h.t).1).trans h.t, h.b.trans (hb.mono h.b.size)⟩

set_option maxHeartbeats 8000000 in
set_option maxRecDepth 100000 in
theorem walk (w : World) (ad : Option Addr) (n cap : Nat) (down : Bool) (fuse fault : Int) (fs : List F) (k : Int) (nm dt : ByteArray) (z : Int) (k2 : Int) (nm2 dt2 : ByteArray) (z2 : Int) (h : DIn w ad n cap fuse fault fs)
    (hn : nm.size ≤ 9223372036854775807) (hd : dt.size ≤ 9223372036854775807) (hn2 : nm2.size ≤ 9223372036854775807) (hd2 : dt2.size ≤ 9223372036854775807) :
    Calls Try.prog 5 #[.agg (dcells (.slice ad n cap) down fuse fault), .agg (scells k nm dt z), .agg (scells k2 nm2 dt2 z2)] w fun e w' => e = .returned (.bool true) ∧ Below w.heap.size w w' := by
  have hb0 : Below w.heap.size w (((w.alloc (.cells (dcells (.slice ad n cap) down fuse fault) 24)).alloc (.cells (scells k nm dt z) 27)).alloc (.cells (scells k2 nm2 dt2 z2) 27)) := (((Below.refl _ w).alloc (Nat.le_refl _) _).alloc (by simp) _).alloc (by simp; omega) _
  have hx : (((w.alloc (.cells (dcells (.slice ad n cap) down fuse fault) 24)).alloc (.cells (scells k nm dt z) 27)).alloc (.cells (scells k2 nm2 dt2 z2) 27)).heap[w.heap.size]? = some (.cells (dcells (.slice ad n cap) down fuse fault) 24) := blk_alloc (blk_alloc (blk_new w _) _) _
  have hy : (((w.alloc (.cells (dcells (.slice ad n cap) down fuse fault) 24)).alloc (.cells (scells k nm dt z) 27)).alloc (.cells (scells k2 nm2 dt2 z2) 27)).heap[w.heap.size + 1]? = some (.cells (scells k nm dt z) 27) := by
    have := blk_new (w.alloc (.cells (dcells (.slice ad n cap) down fuse fault) 24)) (.cells (scells k nm dt z) 27)
    exact blk_alloc (by simpa using this) _
  have hz : (((w.alloc (.cells (dcells (.slice ad n cap) down fuse fault) 24)).alloc (.cells (scells k nm dt z) 27)).alloc (.cells (scells k2 nm2 dt2 z2) 27)).heap[w.heap.size + 2]? = some (.cells (scells k2 nm2 dt2 z2) 27) := by
    have := blk_new ((w.alloc (.cells (dcells (.slice ad n cap) down fuse fault) 24)).alloc (.cells (scells k nm dt z) 27)) (.cells (scells k2 nm2 dt2 z2) 27)
    simpa using this
  have Hb0 := Lib.hid hb0
  have Hx := Lib.hid hx
  have Hy := Lib.hid hy
  have Hz := Lib.hid hz
  have H := Lib.hid h
  clear h hb0 hx hy hz
  obtain ⟨⟨⟨gs, dn, fu, fa⟩, code⟩, hdo⟩ : ∃ r, doo ⟨fs, down, fuse, fault⟩ ⟨k, nm, dt, z⟩ = r := ⟨_, rfl⟩
  have hall := doo_all ⟨fs, down, fuse, fault⟩ ⟨k, nm, dt, z⟩ ⟨H.out.u0, H.out.u1⟩ ⟨H.out.f0, H.out.f1⟩
  rw [hdo] at hall
  have Hall := Lib.hid hall
  have Hdo := Lib.hid hdo
  clear hall hdo
  go_enter Try.func5, Try.ntmps5
  go_wp2_with fail
  refine (lives_any _).mono ?_
  rintro e w1 ⟨rfl, hb1⟩
  have hX1 := (hb1.block _ (Array.getElem?_eq_some_iff.1 Hx.out).1).trans Hx.out
  have hY1 := (hb1.block _ (Array.getElem?_eq_some_iff.1 Hy.out).1).trans Hy.out
  have hZ1 := (hb1.block _ (Array.getElem?_eq_some_iff.1 Hz.out).1).trans Hz.out
  obtain ⟨x0, x1, x2, x3⟩ := box4 hX1
  obtain ⟨y0, y1, y2, y3⟩ := box4 hY1
  have HX1 := Lib.hid hX1
  have HY1 := Lib.hid hY1
  have HZ1 := Lib.hid hZ1
  have Hb1 := Lib.hid (Hb0.out.trans (hb1.mono Hb0.out.size))
  clear hb1 hX1 hY1 hZ1 Hx Hy Hz Hb0
  go_wp2_with fail
  refine (Do_any _ ad n cap down fuse fault fs k nm dt z (H.out.under Hb1.out) hn hd).mono ?_
  rw [Hdo.out]
  rintro e w2 ⟨ad2, n2, cap2, rfl, hi, hb2, hf⟩
  by_cases hc : code = 17 ∨ code = 18
  · obtain ⟨hR, hRg, hlen, hk2, hel, hcc⟩ := doo_fault Hdo.out hc
    obtain rfl : n2 = n := by have h1 := hi.1; have h2 := H.out.i.1; simp only at h1; omega
    have h64 : n2 ≤ 64 := by have h2 := H.out.i.1; have := hR.1; omega
    have hal := (Below.refl w2.heap.size w2).alloc (Nat.le_refl _) (.cells (dcells (.slice ad2 n2 cap2) dn fu fa) 24)
    have hx2 := (hb2.block _ (Array.getElem?_eq_some_iff.1 HX1.out).1).trans HX1.out
    have hy2 := (hb2.block _ (Array.getElem?_eq_some_iff.1 HY1.out).1).trans HY1.out
    have hz2 := (hb2.block _ (Array.getElem?_eq_some_iff.1 HZ1.out).1).trans HZ1.out
    have hb2' := Hb1.out.trans (hb2.mono Hb1.out.size)
    have hVd : Var w2 w.heap.size ad n2 cap down fuse fault fs := ⟨hx2, (H.out.under hb2').i⟩
    have hE := Var.new (down := dn) (fuse := fu) (fault := fa) hi
    have hD2 := hVd.under hal
    have HE2 := Lib.hid hE
    have HD2 := Lib.hid hD2
    have HY2 := Lib.hid (show (w2.alloc (.cells (dcells (.slice ad2 n2 cap2) dn fu fa) 24)).heap[w.heap.size + 1]? = _ from blk_alloc hy2 _)
    have HZ2 := Lib.hid (show (w2.alloc (.cells (dcells (.slice ad2 n2 cap2) dn fu fa) 24)).heap[w.heap.size + 2]? = _ from blk_alloc hz2 _)
    have Hb2 := Lib.hid (hb2'.trans (hal.mono hb2'.size))
    have Hcp := Lib.hid (copy_any _ ad2 n2 cap2 dn fu fa gs hE.i (by omega))
    have HR := Lib.hid hR
    have HRg := Lib.hid hRg
    have Hk2 := Lib.hid hk2
    have Hel := Lib.hid hel
    have Hcc := Lib.hid hcc
    have hlt2 := hz2
    obtain ⟨⟨v0, v1, v2, v3⟩, _⟩ := hE.d.facts
    have hpl : w.heap.size + 2 < w2.heap.size := (Array.getElem?_eq_some_iff.1 hz2).1
    clear hR hRg hlen hk2 hel hal hx2 hy2 hz2 hb2' hVd hE hD2 hi hb2 hf x0 x1 x2 x3 y0 y1 y2 y3 HX1 HY1 HZ1 Hb1 hlt2 hcc
    rcases hc with rfl | rfl
    · go_wp2_with fail
      refine (Hcp.out).mono ?_
      rintro e w3 ⟨ad3, cap3, rfl, hi3, hb3⟩
      have hD3 := HD2.out.under hb3
      have hE3 := HE2.out.under hb3
      have hY3 := (hb3.block _ (Array.getElem?_eq_some_iff.1 HY2.out).1).trans HY2.out
      have hZ3 := (hb3.block _ (Array.getElem?_eq_some_iff.1 HZ2.out).1).trans HZ2.out
      have hB3 := Hb2.out.trans (hb3.mono Hb2.out.size)
      have hF3 := Var.new (down := dn) (fuse := fu) (fault := fa) hi3
      have hal3 := ((Below.refl w3.heap.size w3).alloc (Nat.le_refl _) (.cells (dcells (.slice ad3 n2 cap3) down fuse fault) 24)).drew
      have hFl : Fl w _ w2.heap.size w3.heap.size ad n2 cap down fuse fault fs ad2 cap2 dn fu fa gs ad3 cap3 (.cells (scells k nm dt z) 27) (.cells (scells k2 nm2 dt2 z2) 27) :=
        ⟨hD3.under hal3, hE3.under hal3, (Var.new hi3).under ((Below.refl _ _).drew), (hal3.block _ (Array.getElem?_eq_some_iff.1 hY3).1).trans hY3, (hal3.block _ (Array.getElem?_eq_some_iff.1 hZ3).1).trans hZ3, hB3.trans (hal3.mono hB3.size)⟩
      have HFl := Lib.hid hFl
      obtain ⟨⟨d0, d1, d2, d3⟩, _⟩ := hD3.d.facts
      obtain ⟨⟨f0, f1, f2, f3⟩, g0, g1, g2, g3⟩ := hF3.d.facts
      have hq1 : w.heap.size < w3.heap.size := hD3.d.lt
      have hq2 : w2.heap.size < w3.heap.size := hE3.d.lt
      obtain ⟨y0, y1, y2, y3⟩ := box4 hY3
      have hq3 : w.heap.size + 1 < w3.heap.size := (Array.getElem?_eq_some_iff.1 hY3).1
      clear v0 v1 v2 v3 hD3 hE3 hY3 hZ3 hB3 hF3 hal3 hFl hi3 hb3 HE2 HD2 HY2 HZ2 Hb2
      go_wp2
      go_region
      clear f0 f1 f2 f3 g0 g1 g2 g3
      by_cases hk : k = 2
      · subst hk
        go_wp2
        clear d0 d1 d2 d3
        go_loopw [60] (fun i wr => ∃ (l : Nat), i = .int .i64 (l : Int) ∧ l ≤ n2 ∧ Fl w wr w2.heap.size w3.heap.size ad n2 cap down fuse fault fs ad2 cap2 dn fu fa gs ad3 cap3 (.cells (scells 2 nm dt z) 27) (.cells (scells k2 nm2 dt2 z2) 27)) (fun i _ => n2 - (intOf i).toNat)
        case atStart => exact ⟨0, rfl, by omega, HFl.out⟩
        case round =>
          obtain ⟨l, rfl, hl, hL⟩ := hrel
          have HL := Lib.hid hL
          obtain ⟨⟨d0, d1, d2, d3⟩, _⟩ := hL.d.d.facts
          obtain ⟨y0, y1, y2, y3⟩ := box4 hL.s
          have hlD := hL.d.d.lt
          have hlS : w.heap.size + 1 < wr.heap.size := (Array.getElem?_eq_some_iff.1 hL.s).1
          by_cases hlt : l < n2
          · obtain ⟨x, hx⟩ : ∃ x, gs[l]? = some x := ⟨gs[l]'(by have := hL.f.i.1; omega), by simp⟩
            obtain ⟨y, hy⟩ : ∃ y, fs[l]? = some y := ⟨fs[l]'(by have := hL.d.i.1; omega), by simp⟩
            have hgn : gs ≠ [] := by rintro rfl; simp at hx
            have hfn : fs ≠ [] := by rintro rfl; simp at hy
            obtain ⟨gb, off, rfl, hg1, hi1⟩ := hL.f.i.2.2.2 hgn
            obtain ⟨gb2, off2, rfl, hg2, hi2⟩ := hL.d.i.2.2.2 hfn
            obtain ⟨p0, p1, p2⟩ := hi1 l x hx
            obtain ⟨q0, q1, q2⟩ := hi2 l y hy
            have hxy := Hel.out l x y hx hy
            have hok := HR.out.ok y (List.mem_of_getElem? hy)
            have hokx := HRg.out.ok x (List.mem_of_getElem? hx)
            have hs1 := hok.2.1
            have hs2 := hokx.2.1
            have hl0 : (0 : Int) ≤ (l : Int) := by omega
            have hln : (l : Int) < (n2 : Int) := by omega
            have HL2 := Lib.hid (hL.under ((Below.refl wr.heap.size wr).alloc (Nat.le_refl _) (.cells (fcells x.name x.data x.syn) 46)))
            clear hi1 hi2 hx hy hgn hfn hok hokx hL 
            by_cases hsame : x = y
            · subst hsame
              clear hxy
              go_wp2
              go_quiet (fail)
              go_wp2
              go_roundw
              case rel => exact ⟨l + 1, by go_num, by omega, HL2.out.under (below_drewN (Below.refl _ _) _)⟩
              case measure => simp [intOf]; omega
            · obtain ⟨hxe, hnm⟩ := hxy.resolve_left hsame
              have hne : y.data ++ dt ≠ y.data := fun e => hsame (by rw [hxe, e])
              subst hxe
              simp only at p0 p1 p2 hs2
              have e1 := str_not hne
              have e2 := str_is hnm
              have e3 := str_is (rfl : y.data ++ dt = y.data ++ dt)
              have e4 : (y.syn == y.syn) = true := by simp
              have e5 := str_is (rfl : y.name = y.name)
              have e6 : ¬ 9223372036854775807 < y.data.size + dt.size := by rw [ByteArray.size_append] at hs2; omega
              clear hxy hsame hne hnm
              go_wp2
              go_quiet (fail)
              go_wp2
              go_roundw
              case rel => exact ⟨l + 1, by go_num, by omega, HL2.out.under (below_drewN (Below.refl _ _) _)⟩
              case measure => simp [intOf]; omega
          · obtain ⟨⟨v0, v1, v2, v3⟩, _⟩ := hL.e.d.facts
            obtain ⟨t0, t1, t2, t3⟩ := box4 hL.t
            have hdn : dn = true := (Hcc.out.resolve_left (by omega)).2
            subst hdn
            obtain ⟨c2, hd2', hc2⟩ := doo_dead (fu := fu) (fa := fa) HRg.out ⟨k2, nm2, dt2, z2⟩
            have Hd2 := Lib.hid hd2'
            have Hfit := Lib.hid (fun f hf => okF_fit (HRg.out.ok f hf))
            clear hL hd2'
            go_wp2_with fail
            refine (Do_any _ ad2 n2 cap2 true fu fa gs k2 nm2 dt2 z2 ⟨HL.out.e.i, Hfit.out, Hall.out.2.1.1, Hall.out.2.1.2, Hall.out.2.2.1, Hall.out.2.2.2⟩ hn2 hd2).mono ?_
            rw [Hd2.out]
            rintro e w5 ⟨ad5, n5, cap5, rfl, hi5, hb5, hf5⟩
            have hL5 := (HL.out.under hb5).under ((Below.refl w5.heap.size w5).alloc (Nat.le_refl _) (.cells (dcells (.slice ad5 n5 cap5) true fu fa) 24))
            have hV5 := Var.new (down := true) (fuse := fu) (fault := fa) hi5
            have HL5 := Lib.hid hL5
            have hlE := hL5.e.d.lt
            have hlE5 := (HL.out.under hb5).e.d.lt
            have Hsm5 := Lib.hid (same_yes _ ad2 ad5 n2 cap2 n5 cap5 true fu fa gs hL5.e.i hV5.i (by omega))
            clear v0 v1 v2 v3 t0 t1 t2 t3 d0 d1 d2 d3 y0 y1 y2 y3
            obtain ⟨⟨v0, v1, v2, v3⟩, _⟩ := hL5.e.d.facts
            obtain ⟨⟨u0, u1, u2, u3⟩, _⟩ := hV5.d.facts
            clear hL5 hV5 hi5 hb5 hf5
            go_wp2_with fail
            refine (Hsm5.out).mono ?_
            rintro e w6 ⟨rfl, hb6⟩
            have Hb6 := Lib.hid (HL5.out.under hb6).b
            clear hb6
            rcases hc2 with rfl | rfl
            · go_wp2
              go_ret
              exact ⟨rfl, Hb6.out⟩
            · go_wp2
              go_ret
              exact ⟨rfl, Hb6.out⟩
      · have hkk : (k != 2) = true := by simp [hk]
        have hk2' : gs = fs := Hk2.out hk
        have Hsm := Lib.hid (same_yes _ ad3 ad n2 cap3 n2 cap down fuse fault fs (by have := HFl.out.f.i; rwa [hk2'] at this) HFl.out.d.i (by omega))
        clear hk2'
        go_wp2_with fail
        refine (Hsm.out).mono ?_
        rintro e w4 ⟨rfl, hb4⟩
        have HFl4 := Lib.hid (HFl.out.under hb4)
        clear d0 d1 d2 d3 y0 y1 y2 y3 hb4
        obtain ⟨⟨d0, d1, d2, d3⟩, _⟩ := HFl4.out.d.d.facts
        obtain ⟨⟨f0, f1, f2, f3⟩, _⟩ := HFl4.out.f.d.facts
        go_wp2
        clear f0 f1 f2 f3
        clear d0 d1 d2 d3
        go_loopw [60] (fun i wr => ∃ (l : Nat), i = .int .i64 (l : Int) ∧ l ≤ n2 ∧ Fl w wr w2.heap.size w3.heap.size ad n2 cap down fuse fault fs ad2 cap2 dn fu fa gs ad3 cap3 (.cells (scells k nm dt z) 27) (.cells (scells k2 nm2 dt2 z2) 27)) (fun i _ => n2 - (intOf i).toNat)
        case atStart => exact ⟨0, rfl, by omega, HFl4.out⟩
        case round =>
          obtain ⟨l, rfl, hl, hL⟩ := hrel
          have HL := Lib.hid hL
          obtain ⟨⟨d0, d1, d2, d3⟩, _⟩ := hL.d.d.facts
          obtain ⟨y0, y1, y2, y3⟩ := box4 hL.s
          have hlD := hL.d.d.lt
          have hlS : w.heap.size + 1 < wr.heap.size := (Array.getElem?_eq_some_iff.1 hL.s).1
          by_cases hlt : l < n2
          · obtain ⟨x, hx⟩ : ∃ x, gs[l]? = some x := ⟨gs[l]'(by have := hL.f.i.1; omega), by simp⟩
            obtain ⟨y, hy⟩ : ∃ y, fs[l]? = some y := ⟨fs[l]'(by have := hL.d.i.1; omega), by simp⟩
            have hgn : gs ≠ [] := by rintro rfl; simp at hx
            have hfn : fs ≠ [] := by rintro rfl; simp at hy
            obtain ⟨gb, off, rfl, hg1, hi1⟩ := hL.f.i.2.2.2 hgn
            obtain ⟨gb2, off2, rfl, hg2, hi2⟩ := hL.d.i.2.2.2 hfn
            obtain ⟨p0, p1, p2⟩ := hi1 l x hx
            obtain ⟨q0, q1, q2⟩ := hi2 l y hy
            have hxy := Hel.out l x y hx hy
            have hok := HR.out.ok y (List.mem_of_getElem? hy)
            have hokx := HRg.out.ok x (List.mem_of_getElem? hx)
            have hs1 := hok.2.1
            have hs2 := hokx.2.1
            have hl0 : (0 : Int) ≤ (l : Int) := by omega
            have hln : (l : Int) < (n2 : Int) := by omega
            have HL2 := Lib.hid (hL.under ((Below.refl wr.heap.size wr).alloc (Nat.le_refl _) (.cells (fcells x.name x.data x.syn) 46)))
            clear hi1 hi2 hx hy hgn hfn hok hokx hL 
            by_cases hsame : x = y
            · subst hsame
              clear hxy
              go_wp2
              go_quiet (fail)
              go_wp2
              go_roundw
              case rel => exact ⟨l + 1, by go_num, by omega, HL2.out.under (below_drewN (Below.refl _ _) _)⟩
              case measure => simp [intOf]; omega
            · obtain ⟨hxe, hnm⟩ := hxy.resolve_left hsame
              have hne : y.data ++ dt ≠ y.data := fun e => hsame (by rw [hxe, e])
              subst hxe
              simp only at p0 p1 p2 hs2
              have e1 := str_not hne
              have e2 := str_is hnm
              have e3 := str_is (rfl : y.data ++ dt = y.data ++ dt)
              have e4 : (y.syn == y.syn) = true := by simp
              have e5 := str_is (rfl : y.name = y.name)
              have e6 : ¬ 9223372036854775807 < y.data.size + dt.size := by rw [ByteArray.size_append] at hs2; omega
              clear hxy hsame hne hnm
              go_wp2
              go_quiet (fail)
              go_wp2
              go_roundw
              case rel => exact ⟨l + 1, by go_num, by omega, HL2.out.under (below_drewN (Below.refl _ _) _)⟩
              case measure => simp [intOf]; omega
          · obtain ⟨⟨v0, v1, v2, v3⟩, _⟩ := hL.e.d.facts
            obtain ⟨t0, t1, t2, t3⟩ := box4 hL.t
            have hdn : dn = true := (Hcc.out.resolve_left (by omega)).2
            subst hdn
            obtain ⟨c2, hd2', hc2⟩ := doo_dead (fu := fu) (fa := fa) HRg.out ⟨k2, nm2, dt2, z2⟩
            have Hd2 := Lib.hid hd2'
            have Hfit := Lib.hid (fun f hf => okF_fit (HRg.out.ok f hf))
            clear hL hd2'
            go_wp2_with fail
            refine (Do_any _ ad2 n2 cap2 true fu fa gs k2 nm2 dt2 z2 ⟨HL.out.e.i, Hfit.out, Hall.out.2.1.1, Hall.out.2.1.2, Hall.out.2.2.1, Hall.out.2.2.2⟩ hn2 hd2).mono ?_
            rw [Hd2.out]
            rintro e w5 ⟨ad5, n5, cap5, rfl, hi5, hb5, hf5⟩
            have hL5 := (HL.out.under hb5).under ((Below.refl w5.heap.size w5).alloc (Nat.le_refl _) (.cells (dcells (.slice ad5 n5 cap5) true fu fa) 24))
            have hV5 := Var.new (down := true) (fuse := fu) (fault := fa) hi5
            have HL5 := Lib.hid hL5
            have hlE := hL5.e.d.lt
            have hlE5 := (HL.out.under hb5).e.d.lt
            have Hsm5 := Lib.hid (same_yes _ ad2 ad5 n2 cap2 n5 cap5 true fu fa gs hL5.e.i hV5.i (by omega))
            clear v0 v1 v2 v3 t0 t1 t2 t3 d0 d1 d2 d3 y0 y1 y2 y3
            obtain ⟨⟨v0, v1, v2, v3⟩, _⟩ := hL5.e.d.facts
            obtain ⟨⟨u0, u1, u2, u3⟩, _⟩ := hV5.d.facts
            clear hL5 hV5 hi5 hb5 hf5
            go_wp2_with fail
            refine (Hsm5.out).mono ?_
            rintro e w6 ⟨rfl, hb6⟩
            have Hb6 := Lib.hid (HL5.out.under hb6).b
            clear hb6
            rcases hc2 with rfl | rfl
            · go_wp2
              go_ret
              exact ⟨rfl, Hb6.out⟩
            · go_wp2
              go_ret
              exact ⟨rfl, Hb6.out⟩
    · go_wp2_with fail
      refine (Hcp.out).mono ?_
      rintro e w3 ⟨ad3, cap3, rfl, hi3, hb3⟩
      have hD3 := HD2.out.under hb3
      have hE3 := HE2.out.under hb3
      have hY3 := (hb3.block _ (Array.getElem?_eq_some_iff.1 HY2.out).1).trans HY2.out
      have hZ3 := (hb3.block _ (Array.getElem?_eq_some_iff.1 HZ2.out).1).trans HZ2.out
      have hB3 := Hb2.out.trans (hb3.mono Hb2.out.size)
      have hF3 := Var.new (down := dn) (fuse := fu) (fault := fa) hi3
      have hal3 := ((Below.refl w3.heap.size w3).alloc (Nat.le_refl _) (.cells (dcells (.slice ad3 n2 cap3) down fuse fault) 24)).drew
      have hFl : Fl w _ w2.heap.size w3.heap.size ad n2 cap down fuse fault fs ad2 cap2 dn fu fa gs ad3 cap3 (.cells (scells k nm dt z) 27) (.cells (scells k2 nm2 dt2 z2) 27) :=
        ⟨hD3.under hal3, hE3.under hal3, (Var.new hi3).under ((Below.refl _ _).drew), (hal3.block _ (Array.getElem?_eq_some_iff.1 hY3).1).trans hY3, (hal3.block _ (Array.getElem?_eq_some_iff.1 hZ3).1).trans hZ3, hB3.trans (hal3.mono hB3.size)⟩
      have HFl := Lib.hid hFl
      obtain ⟨⟨d0, d1, d2, d3⟩, _⟩ := hD3.d.facts
      obtain ⟨⟨f0, f1, f2, f3⟩, g0, g1, g2, g3⟩ := hF3.d.facts
      have hq1 : w.heap.size < w3.heap.size := hD3.d.lt
      have hq2 : w2.heap.size < w3.heap.size := hE3.d.lt
      obtain ⟨y0, y1, y2, y3⟩ := box4 hY3
      have hq3 : w.heap.size + 1 < w3.heap.size := (Array.getElem?_eq_some_iff.1 hY3).1
      clear v0 v1 v2 v3 hD3 hE3 hY3 hZ3 hB3 hF3 hal3 hFl hi3 hb3 HE2 HD2 HY2 HZ2 Hb2
      go_wp2
      go_region
      clear f0 f1 f2 f3 g0 g1 g2 g3
      by_cases hk : k = 2
      · subst hk
        go_wp2
        clear d0 d1 d2 d3
        go_loopw [60] (fun i wr => ∃ (l : Nat), i = .int .i64 (l : Int) ∧ l ≤ n2 ∧ Fl w wr w2.heap.size w3.heap.size ad n2 cap down fuse fault fs ad2 cap2 dn fu fa gs ad3 cap3 (.cells (scells 2 nm dt z) 27) (.cells (scells k2 nm2 dt2 z2) 27)) (fun i _ => n2 - (intOf i).toNat)
        case atStart => exact ⟨0, rfl, by omega, HFl.out⟩
        case round =>
          obtain ⟨l, rfl, hl, hL⟩ := hrel
          have HL := Lib.hid hL
          obtain ⟨⟨d0, d1, d2, d3⟩, _⟩ := hL.d.d.facts
          obtain ⟨y0, y1, y2, y3⟩ := box4 hL.s
          have hlD := hL.d.d.lt
          have hlS : w.heap.size + 1 < wr.heap.size := (Array.getElem?_eq_some_iff.1 hL.s).1
          by_cases hlt : l < n2
          · obtain ⟨x, hx⟩ : ∃ x, gs[l]? = some x := ⟨gs[l]'(by have := hL.f.i.1; omega), by simp⟩
            obtain ⟨y, hy⟩ : ∃ y, fs[l]? = some y := ⟨fs[l]'(by have := hL.d.i.1; omega), by simp⟩
            have hgn : gs ≠ [] := by rintro rfl; simp at hx
            have hfn : fs ≠ [] := by rintro rfl; simp at hy
            obtain ⟨gb, off, rfl, hg1, hi1⟩ := hL.f.i.2.2.2 hgn
            obtain ⟨gb2, off2, rfl, hg2, hi2⟩ := hL.d.i.2.2.2 hfn
            obtain ⟨p0, p1, p2⟩ := hi1 l x hx
            obtain ⟨q0, q1, q2⟩ := hi2 l y hy
            have hxy := Hel.out l x y hx hy
            have hok := HR.out.ok y (List.mem_of_getElem? hy)
            have hokx := HRg.out.ok x (List.mem_of_getElem? hx)
            have hs1 := hok.2.1
            have hs2 := hokx.2.1
            have hl0 : (0 : Int) ≤ (l : Int) := by omega
            have hln : (l : Int) < (n2 : Int) := by omega
            have HL2 := Lib.hid (hL.under ((Below.refl wr.heap.size wr).alloc (Nat.le_refl _) (.cells (fcells x.name x.data x.syn) 46)))
            clear hi1 hi2 hx hy hgn hfn hok hokx hL 
            by_cases hsame : x = y
            · subst hsame
              clear hxy
              go_wp2
              go_quiet (fail)
              go_wp2
              go_roundw
              case rel => exact ⟨l + 1, by go_num, by omega, HL2.out.under (below_drewN (Below.refl _ _) _)⟩
              case measure => simp [intOf]; omega
            · obtain ⟨hxe, hnm⟩ := hxy.resolve_left hsame
              have hne : y.data ++ dt ≠ y.data := fun e => hsame (by rw [hxe, e])
              subst hxe
              simp only at p0 p1 p2 hs2
              have e1 := str_not hne
              have e2 := str_is hnm
              have e3 := str_is (rfl : y.data ++ dt = y.data ++ dt)
              have e4 : (y.syn == y.syn) = true := by simp
              have e5 := str_is (rfl : y.name = y.name)
              have e6 : ¬ 9223372036854775807 < y.data.size + dt.size := by rw [ByteArray.size_append] at hs2; omega
              clear hxy hsame hne hnm
              go_wp2
              go_quiet (fail)
              go_wp2
              go_roundw
              case rel => exact ⟨l + 1, by go_num, by omega, HL2.out.under (below_drewN (Below.refl _ _) _)⟩
              case measure => simp [intOf]; omega
          · obtain ⟨⟨v0, v1, v2, v3⟩, _⟩ := hL.e.d.facts
            obtain ⟨t0, t1, t2, t3⟩ := box4 hL.t
            obtain ⟨_, hfa, hdn⟩ := Hcc.out.resolve_right (by omega)
            subst hfa hdn
            clear hL
            go_wp2
            go_ret
            exact ⟨rfl, HL.out.b⟩
      · have hkk : (k != 2) = true := by simp [hk]
        have hk2' : gs = fs := Hk2.out hk
        have Hsm := Lib.hid (same_yes _ ad3 ad n2 cap3 n2 cap down fuse fault fs (by have := HFl.out.f.i; rwa [hk2'] at this) HFl.out.d.i (by omega))
        clear hk2'
        go_wp2_with fail
        refine (Hsm.out).mono ?_
        rintro e w4 ⟨rfl, hb4⟩
        have HFl4 := Lib.hid (HFl.out.under hb4)
        clear d0 d1 d2 d3 y0 y1 y2 y3 hb4
        obtain ⟨⟨d0, d1, d2, d3⟩, _⟩ := HFl4.out.d.d.facts
        obtain ⟨⟨f0, f1, f2, f3⟩, _⟩ := HFl4.out.f.d.facts
        go_wp2
        clear f0 f1 f2 f3
        clear d0 d1 d2 d3
        go_loopw [60] (fun i wr => ∃ (l : Nat), i = .int .i64 (l : Int) ∧ l ≤ n2 ∧ Fl w wr w2.heap.size w3.heap.size ad n2 cap down fuse fault fs ad2 cap2 dn fu fa gs ad3 cap3 (.cells (scells k nm dt z) 27) (.cells (scells k2 nm2 dt2 z2) 27)) (fun i _ => n2 - (intOf i).toNat)
        case atStart => exact ⟨0, rfl, by omega, HFl4.out⟩
        case round =>
          obtain ⟨l, rfl, hl, hL⟩ := hrel
          have HL := Lib.hid hL
          obtain ⟨⟨d0, d1, d2, d3⟩, _⟩ := hL.d.d.facts
          obtain ⟨y0, y1, y2, y3⟩ := box4 hL.s
          have hlD := hL.d.d.lt
          have hlS : w.heap.size + 1 < wr.heap.size := (Array.getElem?_eq_some_iff.1 hL.s).1
          by_cases hlt : l < n2
          · obtain ⟨x, hx⟩ : ∃ x, gs[l]? = some x := ⟨gs[l]'(by have := hL.f.i.1; omega), by simp⟩
            obtain ⟨y, hy⟩ : ∃ y, fs[l]? = some y := ⟨fs[l]'(by have := hL.d.i.1; omega), by simp⟩
            have hgn : gs ≠ [] := by rintro rfl; simp at hx
            have hfn : fs ≠ [] := by rintro rfl; simp at hy
            obtain ⟨gb, off, rfl, hg1, hi1⟩ := hL.f.i.2.2.2 hgn
            obtain ⟨gb2, off2, rfl, hg2, hi2⟩ := hL.d.i.2.2.2 hfn
            obtain ⟨p0, p1, p2⟩ := hi1 l x hx
            obtain ⟨q0, q1, q2⟩ := hi2 l y hy
            have hxy := Hel.out l x y hx hy
            have hok := HR.out.ok y (List.mem_of_getElem? hy)
            have hokx := HRg.out.ok x (List.mem_of_getElem? hx)
            have hs1 := hok.2.1
            have hs2 := hokx.2.1
            have hl0 : (0 : Int) ≤ (l : Int) := by omega
            have hln : (l : Int) < (n2 : Int) := by omega
            have HL2 := Lib.hid (hL.under ((Below.refl wr.heap.size wr).alloc (Nat.le_refl _) (.cells (fcells x.name x.data x.syn) 46)))
            clear hi1 hi2 hx hy hgn hfn hok hokx hL 
            by_cases hsame : x = y
            · subst hsame
              clear hxy
              go_wp2
              go_quiet (fail)
              go_wp2
              go_roundw
              case rel => exact ⟨l + 1, by go_num, by omega, HL2.out.under (below_drewN (Below.refl _ _) _)⟩
              case measure => simp [intOf]; omega
            · obtain ⟨hxe, hnm⟩ := hxy.resolve_left hsame
              have hne : y.data ++ dt ≠ y.data := fun e => hsame (by rw [hxe, e])
              subst hxe
              simp only at p0 p1 p2 hs2
              have e1 := str_not hne
              have e2 := str_is hnm
              have e3 := str_is (rfl : y.data ++ dt = y.data ++ dt)
              have e4 : (y.syn == y.syn) = true := by simp
              have e5 := str_is (rfl : y.name = y.name)
              have e6 : ¬ 9223372036854775807 < y.data.size + dt.size := by rw [ByteArray.size_append] at hs2; omega
              clear hxy hsame hne hnm
              go_wp2
              go_quiet (fail)
              go_wp2
              go_roundw
              case rel => exact ⟨l + 1, by go_num, by omega, HL2.out.under (below_drewN (Below.refl _ _) _)⟩
              case measure => simp [intOf]; omega
          · obtain ⟨⟨v0, v1, v2, v3⟩, _⟩ := hL.e.d.facts
            obtain ⟨t0, t1, t2, t3⟩ := box4 hL.t
            obtain ⟨_, hfa, hdn⟩ := Hcc.out.resolve_right (by omega)
            subst hfa hdn
            clear hL
            go_wp2
            go_ret
            exact ⟨rfl, HL.out.b⟩
  · have e1 : (code != 18) = true := by simp; omega
    have e2 : (code != 17) = true := by simp; omega
    have Hb2 := Lib.hid (Hb1.out.trans (hb2.mono Hb1.out.size))
    clear hi hb2 hf x0 x1 x2 x3 y0 y1 y2 y3
    go_wp2
    go_ret
    exact ⟨rfl, Hb2.out.alloc Hb2.out.size _⟩
theorem laidOut : laidOutB Try.prog = true := by kernel_rfl

set_option maxRecDepth 100000 in
theorem lifted (os : Os) (started : os.Started) (H : Type) (enc : TypeId × Value → H) :
    ReturnsInHanded {} Try.checked os 5 .any (Rows.diskFaultsSpec.pre6 enc Try.prog Try.f5 Rows.diskFaultsRow.domain false) (Rows.diskFaultsSpec.post enc Try.prog Try.f5 false true false false) := by
  refine returnsInHanded_of_change (C := Try.checked) own started (by kernel_rfl) Try.func5
    (ChangeSpec.witness6 (enc := enc) (C := Try.checked) false ⟨#[], #[.agg #[.slice none 0 0, .bool false, .int .i64 0, .int .i64 0], .agg #[.int .u8 0, .string ByteArray.empty, .string ByteArray.empty, .int .i64 0], .agg #[.int .u8 0, .string ByteArray.empty, .string ByteArray.empty, .int .i64 0]], []⟩ 8 (by kernel_rfl) (by kernel_rfl) (by kernel_rfl) (by kernel_rfl)) ?_
  intro W base args ds gs before hval0 hW hcnd _
  have hval : ∀ (j : Nat) t v, Try.f5.params[j]? = some t → args[j]? = some v → Value.okWide Try.prog W .any base t v := hval0
  have hW' := hW
  obtain ⟨p, q, hA0, hV, rfl, hfz, hnd⟩ := hW
  have hA : DataW.TrodAll enc Try.prog W 0 (fun _ => true) true Try.f5.params.toList args.toList ds p := hA0
  rw [Try.params5] at hA hval
  obtain ⟨v0, vs0, d0, ds0, p0, q0, hargs, rfl, rfl, h0, r0⟩ := trodAll_cons hA
  obtain ⟨v1, vs1, d1, ds1, p1, q1, rfl, rfl, rfl, h1, r1⟩ := trodAll_cons r0
  obtain ⟨v2, vs2, d2, ds2, p2, q2, rfl, rfl, rfl, h2, r2⟩ := trodAll_cons r1
  obtain ⟨rfl, rfl, rfl⟩ := trodAll_nil r2
  obtain rfl : args = #[v0, v1, v2] := by cases args; simp_all
  obtain ⟨rfl, rfl⟩ := trodVars_none hV
  have k0 := h0
  have lt0 : ∀ x ∈ p0, x.block < W.heap.size := by obtain ⟨m, hm⟩ := k0; exact DataW.trod_lt m _ _ _ hm
  have k1 := h1
  have lt1 : ∀ x ∈ p1, x.block < W.heap.size := by obtain ⟨m, hm⟩ := k1; exact DataW.trod_lt m _ _ _ hm
  have k2 := h2
  have lt2 : ∀ x ∈ p2, x.block < W.heap.size := by obtain ⟨m, hm⟩ := k2; exact DataW.trod_lt m _ _ _ hm
  obtain ⟨ad, n, cap, down, fuse, fault, fs, rfl, hD⟩ := open_disk (hval 0 24 v0 rfl rfl) h0
  obtain ⟨k, nm, dt, z, rfl, hn, hd, _, _, _, _⟩ := open_step (hval 1 27 v1 rfl rfl) h1
  obtain ⟨kk, mm, tt, zz, rfl, hmm, htt, _, _, _, _⟩ := open_step (hval 2 27 v2 rfl rfl) h2
  clear hA0 hval0
  refine (walk W ad n cap down fuse fault fs k nm dt z kk mm tt zz hD hn hd hmm htt).mono fun e W' ⟨he, bel⟩ => ?_
  subst he
  exact ⟨_, rfl, _, _, _, [], _, [], hW', trodAll_mk1 (shut_bool Try.underlying4 _), (trodAll_cons_mk (Below.trod laidOut (by kernel_rfl) (of_decide_eq_true (by kernel_rfl)) k0 bel lt0) (trodAll_cons_mk (Below.trod laidOut (by kernel_rfl) (of_decide_eq_true (by kernel_rfl)) k1 bel lt1) (trodAll_cons_mk (Below.trod laidOut (by kernel_rfl) (of_decide_eq_true (by kernel_rfl)) k2 bel lt2) trodAll_mk0))), rfl, bel.frame _, fun h => by cases h⟩

theorem over : Rows.diskFaultsRow.holds Try.pinned (OpenSpec.ofChange Rows.diskFaultsSpec) :=
  OpenClaim.holds_of_wide 5 Try.f5 rfl rfl rfl rfl rfl rfl rfl ⟨rfl, rfl, rfl, rfl, rfl⟩ rfl rfl rfl rfl rfl (by kernel_rfl) Try.func5 (by kernel_rfl)
    (of_decide_eq_true (by kernel_rfl)) (by unfold Func.isWrapper; rw [if_neg (by decide +kernel)]; exact ⟨rfl, rfl⟩)
    (fun os started H enc _ => lifted os started H enc)

theorem proved : Rows.DiskFaultsSaid := over
#print axioms proved
end Go.Proofs.Ytcefhcailhediaa.diskFaults
