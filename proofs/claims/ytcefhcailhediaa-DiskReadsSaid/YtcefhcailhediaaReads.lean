/- The statement of the law DiskReads is proved: for every disk, every name, every text and every number within the form's own reach, the law returns true, and each argument reads afterwards as it did; no condition of ours. -/
import Derived.Test.YtcefhcailhediaaRows
import Derived.Test.YtcefhcailhediaaMth2
import Derived.Test.YtcefhcailhediaaOpn
import Derived.Test.YtcefhcailhediaaMth3
namespace Go.Proofs.Ytcefhcailhediaa.diskReads
open Go.ChangeShapes Go.WideShapes Go.ChangeAt Go.RowKit
open Go.ChangeMaps (open_string shut_string)
set_option linter.unusedVariables false
set_option linter.unusedSimpArgs false
attribute [local go_sem] run_store_func run_store_nilf
theorem own : ownKnob Try.prog.godebug = none := by kernel_rfl

set_option maxHeartbeats 8000000 in
theorem walk_no (w : World) (ad : Option Addr) (n cap : Nat) (down : Bool) (fuse fault : Int) (fs : List F) (b dt : ByteArray) (z : Int) (h : DIn w ad n cap fuse fault fs)
    (hbl : b.size ≤ 9223372036854775807) (hdl : dt.size ≤ 9223372036854775807) (hz0 : -9223372036854775808 ≤ z) (hz1 : z ≤ 9223372036854775807) (c : Int) (s : ByteArray) (hrd : rdv ⟨fs, down, -1, -1⟩ b = (s, c)) (hc : ¬ c = 0) (gs : List F) (dn : Bool) (fu fa c2 : Int) (hdo : doo ⟨fs, down, -1, -1⟩ ⟨2, b, dt, 0⟩ = (⟨gs, dn, fu, fa⟩, c2)) (hc2 : ¬ c2 = 0) :
    Calls Try.prog 8 #[.agg (dcells (.slice ad n cap) down fuse fault), .string b, .string dt, .int .i64 z] w fun e w' => e = .returned (.bool true) ∧ Below w.heap.size w w' := by
  have hb0 := (Below.refl w.heap.size w).alloc (Nat.le_refl _) (.cells (dcells (.slice ad n cap) down fuse fault) 24)
  have hx := blk_new w (.cells (dcells (.slice ad n cap) down fuse fault) 24)
  have Hb0 := Lib.hid hb0
  have Hx := Lib.hid hx
  have H := Lib.hid h
  clear h hb0 hx
  have Hrd := Lib.hid hrd
  have Hdo := Lib.hid hdo
  have hcc : (c == 0) = false := by simp [hc]
  have hcc2 : (c2 == 0) = false := by simp [hc2]
  clear hrd hdo hc hc2
  go_enter Try.func8, Try.ntmps8
  go_wp2_with fail
  refine (lives_any _).mono ?_
  rintro e w1 ⟨rfl, hb1⟩
  have hX1 : Dk w1 w.heap.size 24 (.slice ad n cap) down fuse fault := (hb1.block _ (Array.getElem?_eq_some_iff.1 Hx.out).1).trans Hx.out
  have hbV := ((Hb0.out.trans (hb1.mono Hb0.out.size)).setCell (p := ⟨w.heap.size, 2, none⟩) (Nat.le_refl _) (.int .i64 (-1))).setCell (p := ⟨w.heap.size, 3, none⟩) (Nat.le_refl _) (.int .i64 (-1))
  have hDV := (hX1.set2 (-1)).set3 (-1)
  have Hb1 := Lib.hid hbV
  have HD1 := Lib.hid hDV
  have HI1 := Lib.hid (⟨(H.out.i.keep hbV).mono hbV.size, H.out.fit, by omega, by omega, by omega, by omega⟩ : DIn _ ad n cap (-1) (-1) fs)
  obtain ⟨⟨x0, x1, x2, x3⟩, g0, g1, g2, g3⟩ := hX1.facts
  obtain ⟨⟨y0, y1, y2, y3⟩, _⟩ := hDV.facts
  have hlt1 := hX1.lt
  clear hb1 hX1 hbV hDV
  go_wp2_with fail
  refine (Read_any _ ad n cap down (-1) (-1) fs b HI1.out hbl).mono ?_
  rw [Hrd.out]
  rintro e w2 ⟨rfl, hb⟩
  have hD := HD1.out.keep hb HD1.out.lt
  have Hb2 := Lib.hid (Hb1.out.trans (hb.mono Hb1.out.size))
  have HI2 := Lib.hid (HI1.out.under hb)
  have HD2 := Lib.hid hD
  clear x0 x1 x2 x3 g0 g1 g2 g3 y0 y1 y2 y3 hlt1
  obtain ⟨⟨x0, x1, x2, x3⟩, _⟩ := hD.facts
  clear hb hD
  go_wp2_with fail
  refine (call24_any _ ad n cap down (-1) (-1) fs b dt HI2.out hbl hdl).mono ?_
  rw [Hdo.out]
  rintro e w3 ⟨ad3, n3, cap3, rfl, hi, hb, hf⟩
  have Hb3 := Lib.hid ((Hb2.out.trans (hb.mono Hb2.out.size)).alloc (Nat.le_trans Hb2.out.size hb.size) (.cells (dcells (.slice ad3 n3 cap3) dn fu fa) 24))
  clear hi hb hf
  go_wp2
  go_ret
  exact ⟨ret_bool (by simp [bne, hcc2]), Hb3.out⟩

set_option maxHeartbeats 8000000 in
theorem walk_aa (w : World) (ad : Option Addr) (n cap : Nat) (down : Bool) (fuse fault : Int) (fs : List F) (b dt : ByteArray) (z : Int) (h : DIn w ad n cap fuse fault fs)
    (hbl : b.size ≤ 9223372036854775807) (hdl : dt.size ≤ 9223372036854775807) (hz0 : -9223372036854775808 ≤ z) (hz1 : z ≤ 9223372036854775807) (f : F) (hR : Right fs) (hdn : down = false) (hfd : found fs b = some f) (hrd : rdv ⟨fs, down, -1, -1⟩ b = (f.data, 0)) (hy :  f.data.size + dt.size ≤ 262144) (hz :  (0 ≤ z ∧ z ≤ (f.data.size : Int))) :
    Calls Try.prog 8 #[.agg (dcells (.slice ad n cap) down fuse fault), .string b, .string dt, .int .i64 z] w fun e w' => e = .returned (.bool true) ∧ Below w.heap.size w w' := by
  have hb0 := (Below.refl w.heap.size w).alloc (Nat.le_refl _) (.cells (dcells (.slice ad n cap) down fuse fault) 24)
  have hx := blk_new w (.cells (dcells (.slice ad n cap) down fuse fault) 24)
  have Hb0 := Lib.hid hb0
  have Hx := Lib.hid hx
  have H := Lib.hid h
  clear h hb0 hx
  have Hrd := Lib.hid hrd
  subst hdn
  have hok := hR.ok f (found_mem hfd)
  have hfz := hok.2.1
  obtain ⟨gs5, e5, hr5, hd5⟩ := doo_5 (d := ⟨#[]⟩) (z := 0) hR hfd
  have E5 := Lib.hid e5
  have D5 := Lib.hid hd5
  have F5 := Lib.hid (fun x hx => okF_fit (hr5.ok x hx))
  obtain ⟨gs2, e2, hr2, hd2⟩ := doo_2 (d := dt) (z := 0) hR hfd hy
  have E2 := Lib.hid e2
  have D2 := Lib.hid hd2
  have F2 := Lib.hid (fun x hx => okF_fit (hr2.ok x hx))
  have hcat : ¬ 9223372036854775807 < f.data.size + dt.size := by omega
  have hqq := str_is (rfl : f.data ++ dt = f.data ++ dt)
  clear e2 hr2 hd2
  obtain ⟨gs4, e4, hr4, hd4⟩ := doo_4 (d := ⟨#[]⟩) hR hfd hz
  have E4 := Lib.hid e4
  have D4 := Lib.hid hd4
  have F4 := Lib.hid (fun x hx => okF_fit (hr4.ok x hx))
  have hq4 := str_is (rfl : f.data.extract 0 z.toNat = f.data.extract 0 z.toNat)
  obtain ⟨hza, hzb⟩ := hz
  have hzd : decide (0 ≤ z) = true := decide_eq_true hza
  have hze : decide (z ≤ (f.data.size : Int)) = true := decide_eq_true hzb
  clear e4 hr4 hd4
  have HR := Lib.hid hR
  clear hR hfd hrd hok e5 hr5 hd5 hy
  go_enter Try.func8, Try.ntmps8
  go_wp2_with fail
  refine (lives_any _).mono ?_
  rintro e w1 ⟨rfl, hb1⟩
  have hX1 : Dk w1 w.heap.size 24 (.slice ad n cap) false fuse fault := (hb1.block _ (Array.getElem?_eq_some_iff.1 Hx.out).1).trans Hx.out
  have hbV := ((Hb0.out.trans (hb1.mono Hb0.out.size)).setCell (p := ⟨w.heap.size, 2, none⟩) (Nat.le_refl _) (.int .i64 (-1))).setCell (p := ⟨w.heap.size, 3, none⟩) (Nat.le_refl _) (.int .i64 (-1))
  have hDV := (hX1.set2 (-1)).set3 (-1)
  have Hb1 := Lib.hid hbV
  have HD1 := Lib.hid hDV
  have HI1 := Lib.hid (⟨(H.out.i.keep hbV).mono hbV.size, H.out.fit, by omega, by omega, by omega, by omega⟩ : DIn _ ad n cap (-1) (-1) fs)
  obtain ⟨⟨x0, x1, x2, x3⟩, g0, g1, g2, g3⟩ := hX1.facts
  obtain ⟨⟨y0, y1, y2, y3⟩, _⟩ := hDV.facts
  have hlt1 := hX1.lt
  clear hb1 hX1 hbV hDV
  go_wp2_with fail
  refine (Read_any _ ad n cap false (-1) (-1) fs b HI1.out hbl).mono ?_
  rw [Hrd.out]
  rintro e w2 ⟨rfl, hb⟩
  have hD := HD1.out.keep hb HD1.out.lt
  have Hb2 := Lib.hid (Hb1.out.trans (hb.mono Hb1.out.size))
  have HI2 := Lib.hid (HI1.out.under hb)
  have HD2 := Lib.hid hD
  clear x0 x1 x2 x3 g0 g1 g2 g3 y0 y1 y2 y3 hlt1
  obtain ⟨⟨x0, x1, x2, x3⟩, _⟩ := hD.facts
  clear hb hD
  go_wp2_with fail
  refine (call24_any _ ad n cap false (-1) (-1) fs b dt HI2.out hbl hdl).mono ?_
  rw [E2.out]
  rintro e w3 ⟨ad3, n3, cap3, rfl, hi, hb, hf⟩
  have hal := (Below.refl w3.heap.size w3).alloc (Nat.le_refl _) (.cells (dcells (.slice ad3 n3 cap3) false (-1) (-1)) 24)
  have HV3 := Lib.hid (Var.new (down := false) (fuse := -1) (fault := -1) hi)
  have hb' := hb.trans (hal.mono hb.size)
  have Hb3 := Lib.hid (Hb2.out.trans (hb'.mono Hb2.out.size))
  have HI3 := Lib.hid (HI2.out.under hb')
  have hD := HD2.out.keep hb' HD2.out.lt
  have HD3 := Lib.hid hD
  clear x0 x1 x2 x3
  obtain ⟨⟨x0, x1, x2, x3⟩, _⟩ := hD.facts
  obtain ⟨⟨v0, v1, v2, v3⟩, _⟩ := HV3.out.d.facts
  clear hi hb hf hal hb' hD
  go_wp2_with fail
  refine (Read_any _ ad3 n3 cap3 false (-1) (-1) _ b ⟨HV3.out.i, F2.out, by omega, by omega, by omega, by omega⟩ hbl).mono ?_
  rw [D2.out]
  rintro e w4 ⟨rfl, hb⟩
  have Hb4 := Lib.hid (Hb3.out.trans (hb.mono Hb3.out.size))
  have HI4 := Lib.hid (HI3.out.under hb)
  have hD := HD3.out.keep hb HD3.out.lt
  have HD4 := Lib.hid hD
  clear x0 x1 x2 x3 v0 v1 v2 v3
  obtain ⟨⟨x0, x1, x2, x3⟩, _⟩ := hD.facts
  clear hb hD
  go_wp2_with fail
  refine (call25_any _ ad n cap false (-1) (-1) fs b ⟨#[]⟩ z HI4.out hbl (by decide)).mono ?_
  rw [E4.out]
  rintro e w5 ⟨ad5, n5, cap5, rfl, hi, hb, hf⟩
  have hal := (Below.refl w5.heap.size w5).alloc (Nat.le_refl _) (.cells (dcells (.slice ad5 n5 cap5) false (-1) (-1)) 24)
  have HV5 := Lib.hid (Var.new (down := false) (fuse := -1) (fault := -1) hi)
  have hb' := hb.trans (hal.mono hb.size)
  have Hb5 := Lib.hid (Hb4.out.trans (hb'.mono Hb4.out.size))
  have HI5 := Lib.hid (HI4.out.under hb')
  have hD := HD4.out.keep hb' HD4.out.lt
  have HD5 := Lib.hid hD
  clear x0 x1 x2 x3
  obtain ⟨⟨x0, x1, x2, x3⟩, _⟩ := hD.facts
  obtain ⟨⟨v0, v1, v2, v3⟩, _⟩ := HV5.out.d.facts
  clear hi hb hf hal hb' hD
  go_wp2_with fail
  refine (Read_any _ ad5 n5 cap5 false (-1) (-1) _ b ⟨HV5.out.i, F4.out, by omega, by omega, by omega, by omega⟩ hbl).mono ?_
  rw [D4.out]
  rintro e w6 ⟨rfl, hb⟩
  have Hb6 := Lib.hid (Hb5.out.trans (hb.mono Hb5.out.size))
  have HI6 := Lib.hid (HI5.out.under hb)
  have hD := HD5.out.keep hb HD5.out.lt
  have HD6 := Lib.hid hD
  clear x0 x1 x2 x3 v0 v1 v2 v3
  obtain ⟨⟨x0, x1, x2, x3⟩, _⟩ := hD.facts
  clear hb hD
  go_wp2_with fail
  refine (call26_any _ ad n cap false (-1) (-1) fs b ⟨#[]⟩ HI6.out hbl (by decide)).mono ?_
  rw [E5.out]
  rintro e w7 ⟨ad7, n7, cap7, rfl, hi, hb, hf⟩
  have hal := (Below.refl w7.heap.size w7).alloc (Nat.le_refl _) (.cells (dcells (.slice ad7 n7 cap7) false (-1) (-1)) 24)
  have HV7 := Lib.hid (Var.new (down := false) (fuse := -1) (fault := -1) hi)
  have hb' := hb.trans (hal.mono hb.size)
  have Hb7 := Lib.hid (Hb6.out.trans (hb'.mono Hb6.out.size))
  have HI7 := Lib.hid (HI6.out.under hb')
  have hD := HD6.out.keep hb' HD6.out.lt
  have HD7 := Lib.hid hD
  clear x0 x1 x2 x3
  obtain ⟨⟨x0, x1, x2, x3⟩, _⟩ := hD.facts
  obtain ⟨⟨v0, v1, v2, v3⟩, _⟩ := HV7.out.d.facts
  clear hi hb hf hal hb' hD
  go_wp2_with fail
  refine (Read_any _ ad7 n7 cap7 false (-1) (-1) _ b ⟨HV7.out.i, F5.out, by omega, by omega, by omega, by omega⟩ hbl).mono ?_
  rw [D5.out]
  rintro e w8 ⟨rfl, hb⟩
  have Hb8 := Lib.hid (Hb7.out.trans (hb.mono Hb7.out.size))
  have HI8 := Lib.hid (HI7.out.under hb)
  have hD := HD7.out.keep hb HD7.out.lt
  have HD8 := Lib.hid hD
  clear x0 x1 x2 x3 v0 v1 v2 v3
  obtain ⟨⟨x0, x1, x2, x3⟩, _⟩ := hD.facts
  clear hb hD
  go_wp2
  go_ret
  exact ⟨rfl, Hb8.out⟩

set_option maxHeartbeats 8000000 in
theorem walk_ab (w : World) (ad : Option Addr) (n cap : Nat) (down : Bool) (fuse fault : Int) (fs : List F) (b dt : ByteArray) (z : Int) (h : DIn w ad n cap fuse fault fs)
    (hbl : b.size ≤ 9223372036854775807) (hdl : dt.size ≤ 9223372036854775807) (hz0 : -9223372036854775808 ≤ z) (hz1 : z ≤ 9223372036854775807) (f : F) (hR : Right fs) (hdn : down = false) (hfd : found fs b = some f) (hrd : rdv ⟨fs, down, -1, -1⟩ b = (f.data, 0)) (hy :  f.data.size + dt.size ≤ 262144) (hz : ¬ (0 ≤ z ∧ z ≤ (f.data.size : Int))) :
    Calls Try.prog 8 #[.agg (dcells (.slice ad n cap) down fuse fault), .string b, .string dt, .int .i64 z] w fun e w' => e = .returned (.bool true) ∧ Below w.heap.size w w' := by
  have hb0 := (Below.refl w.heap.size w).alloc (Nat.le_refl _) (.cells (dcells (.slice ad n cap) down fuse fault) 24)
  have hx := blk_new w (.cells (dcells (.slice ad n cap) down fuse fault) 24)
  have Hb0 := Lib.hid hb0
  have Hx := Lib.hid hx
  have H := Lib.hid h
  clear h hb0 hx
  have Hrd := Lib.hid hrd
  subst hdn
  have hok := hR.ok f (found_mem hfd)
  have hfz := hok.2.1
  obtain ⟨gs5, e5, hr5, hd5⟩ := doo_5 (d := ⟨#[]⟩) (z := 0) hR hfd
  have E5 := Lib.hid e5
  have D5 := Lib.hid hd5
  have F5 := Lib.hid (fun x hx => okF_fit (hr5.ok x hx))
  obtain ⟨gs2, e2, hr2, hd2⟩ := doo_2 (d := dt) (z := 0) hR hfd hy
  have E2 := Lib.hid e2
  have D2 := Lib.hid hd2
  have F2 := Lib.hid (fun x hx => okF_fit (hr2.ok x hx))
  have hcat : ¬ 9223372036854775807 < f.data.size + dt.size := by omega
  have hqq := str_is (rfl : f.data ++ dt = f.data ++ dt)
  clear e2 hr2 hd2
  have E4 := Lib.hid (doo_4_bad (d := ⟨#[]⟩) hR hfd hz)
  have Hz := Lib.hid hz
  clear hz
  have HR := Lib.hid hR
  clear hR hfd hrd hok e5 hr5 hd5 hy
  go_enter Try.func8, Try.ntmps8
  go_wp2_with fail
  refine (lives_any _).mono ?_
  rintro e w1 ⟨rfl, hb1⟩
  have hX1 : Dk w1 w.heap.size 24 (.slice ad n cap) false fuse fault := (hb1.block _ (Array.getElem?_eq_some_iff.1 Hx.out).1).trans Hx.out
  have hbV := ((Hb0.out.trans (hb1.mono Hb0.out.size)).setCell (p := ⟨w.heap.size, 2, none⟩) (Nat.le_refl _) (.int .i64 (-1))).setCell (p := ⟨w.heap.size, 3, none⟩) (Nat.le_refl _) (.int .i64 (-1))
  have hDV := (hX1.set2 (-1)).set3 (-1)
  have Hb1 := Lib.hid hbV
  have HD1 := Lib.hid hDV
  have HI1 := Lib.hid (⟨(H.out.i.keep hbV).mono hbV.size, H.out.fit, by omega, by omega, by omega, by omega⟩ : DIn _ ad n cap (-1) (-1) fs)
  obtain ⟨⟨x0, x1, x2, x3⟩, g0, g1, g2, g3⟩ := hX1.facts
  obtain ⟨⟨y0, y1, y2, y3⟩, _⟩ := hDV.facts
  have hlt1 := hX1.lt
  clear hb1 hX1 hbV hDV
  go_wp2_with fail
  refine (Read_any _ ad n cap false (-1) (-1) fs b HI1.out hbl).mono ?_
  rw [Hrd.out]
  rintro e w2 ⟨rfl, hb⟩
  have hD := HD1.out.keep hb HD1.out.lt
  have Hb2 := Lib.hid (Hb1.out.trans (hb.mono Hb1.out.size))
  have HI2 := Lib.hid (HI1.out.under hb)
  have HD2 := Lib.hid hD
  clear x0 x1 x2 x3 g0 g1 g2 g3 y0 y1 y2 y3 hlt1
  obtain ⟨⟨x0, x1, x2, x3⟩, _⟩ := hD.facts
  clear hb hD
  go_wp2_with fail
  refine (call24_any _ ad n cap false (-1) (-1) fs b dt HI2.out hbl hdl).mono ?_
  rw [E2.out]
  rintro e w3 ⟨ad3, n3, cap3, rfl, hi, hb, hf⟩
  have hal := (Below.refl w3.heap.size w3).alloc (Nat.le_refl _) (.cells (dcells (.slice ad3 n3 cap3) false (-1) (-1)) 24)
  have HV3 := Lib.hid (Var.new (down := false) (fuse := -1) (fault := -1) hi)
  have hb' := hb.trans (hal.mono hb.size)
  have Hb3 := Lib.hid (Hb2.out.trans (hb'.mono Hb2.out.size))
  have HI3 := Lib.hid (HI2.out.under hb')
  have hD := HD2.out.keep hb' HD2.out.lt
  have HD3 := Lib.hid hD
  clear x0 x1 x2 x3
  obtain ⟨⟨x0, x1, x2, x3⟩, _⟩ := hD.facts
  obtain ⟨⟨v0, v1, v2, v3⟩, _⟩ := HV3.out.d.facts
  clear hi hb hf hal hb' hD
  go_wp2_with fail
  refine (Read_any _ ad3 n3 cap3 false (-1) (-1) _ b ⟨HV3.out.i, F2.out, by omega, by omega, by omega, by omega⟩ hbl).mono ?_
  rw [D2.out]
  rintro e w4 ⟨rfl, hb⟩
  have Hb4 := Lib.hid (Hb3.out.trans (hb.mono Hb3.out.size))
  have HI4 := Lib.hid (HI3.out.under hb)
  have hD := HD3.out.keep hb HD3.out.lt
  have HD4 := Lib.hid hD
  clear x0 x1 x2 x3 v0 v1 v2 v3
  obtain ⟨⟨x0, x1, x2, x3⟩, _⟩ := hD.facts
  clear hb hD
  go_wp2_with fail
  refine (call25_any _ ad n cap false (-1) (-1) fs b ⟨#[]⟩ z HI4.out hbl (by decide)).mono ?_
  rw [E4.out]
  rintro e w5 ⟨ad5, n5, cap5, rfl, hi, hb, hf⟩
  have hal := (Below.refl w5.heap.size w5).alloc (Nat.le_refl _) (.cells (dcells (.slice ad5 n5 cap5) false (-1) (-1)) 24)
  have HV5 := Lib.hid (Var.new (down := false) (fuse := -1) (fault := -1) hi)
  have hb' := hb.trans (hal.mono hb.size)
  have Hb5 := Lib.hid (Hb4.out.trans (hb'.mono Hb4.out.size))
  have HI5 := Lib.hid (HI4.out.under hb')
  have hD := HD4.out.keep hb' HD4.out.lt
  have HD5 := Lib.hid hD
  clear x0 x1 x2 x3
  obtain ⟨⟨x0, x1, x2, x3⟩, _⟩ := hD.facts
  obtain ⟨⟨v0, v1, v2, v3⟩, _⟩ := HV5.out.d.facts
  clear hi hb hf hal hb' hD
  clear v0 v1 v2 v3
  go_wp2_with fail
  refine (call26_any _ ad n cap false (-1) (-1) fs b ⟨#[]⟩ HI5.out hbl (by decide)).mono ?_
  rw [E5.out]
  rintro e w6 ⟨ad6, n6, cap6, rfl, hi, hb, hf⟩
  have hal := (Below.refl w6.heap.size w6).alloc (Nat.le_refl _) (.cells (dcells (.slice ad6 n6 cap6) false (-1) (-1)) 24)
  have HV6 := Lib.hid (Var.new (down := false) (fuse := -1) (fault := -1) hi)
  have hb' := hb.trans (hal.mono hb.size)
  have Hb6 := Lib.hid (Hb5.out.trans (hb'.mono Hb5.out.size))
  have HI6 := Lib.hid (HI5.out.under hb')
  have hD := HD5.out.keep hb' HD5.out.lt
  have HD6 := Lib.hid hD
  clear x0 x1 x2 x3
  obtain ⟨⟨x0, x1, x2, x3⟩, _⟩ := hD.facts
  obtain ⟨⟨v0, v1, v2, v3⟩, _⟩ := HV6.out.d.facts
  clear hi hb hf hal hb' hD
  go_wp2_with fail
  refine (Read_any _ ad6 n6 cap6 false (-1) (-1) _ b ⟨HV6.out.i, F5.out, by omega, by omega, by omega, by omega⟩ hbl).mono ?_
  rw [D5.out]
  rintro e w7 ⟨rfl, hb⟩
  have Hb7 := Lib.hid (Hb6.out.trans (hb.mono Hb6.out.size))
  have HI7 := Lib.hid (HI6.out.under hb)
  have hD := HD6.out.keep hb HD6.out.lt
  have HD7 := Lib.hid hD
  clear x0 x1 x2 x3 v0 v1 v2 v3
  obtain ⟨⟨x0, x1, x2, x3⟩, _⟩ := hD.facts
  clear hb hD
  by_cases hzn : 0 ≤ z
  · have hzd : decide (0 ≤ z) = true := decide_eq_true hzn
    have hze : decide (z ≤ (f.data.size : Int)) = false := decide_eq_false (fun q => Hz.out ⟨hzn, q⟩)
    have hzf : ¬ z ≤ (f.data.size : Int) := fun q => Hz.out ⟨hzn, q⟩
    go_wp2
    go_ret
    exact ⟨rfl, Hb7.out⟩
  · have hzd : decide (0 ≤ z) = false := decide_eq_false hzn
    go_wp2
    go_ret
    exact ⟨rfl, Hb7.out⟩

set_option maxHeartbeats 8000000 in
theorem walk_ba (w : World) (ad : Option Addr) (n cap : Nat) (down : Bool) (fuse fault : Int) (fs : List F) (b dt : ByteArray) (z : Int) (h : DIn w ad n cap fuse fault fs)
    (hbl : b.size ≤ 9223372036854775807) (hdl : dt.size ≤ 9223372036854775807) (hz0 : -9223372036854775808 ≤ z) (hz1 : z ≤ 9223372036854775807) (f : F) (hR : Right fs) (hdn : down = false) (hfd : found fs b = some f) (hrd : rdv ⟨fs, down, -1, -1⟩ b = (f.data, 0)) (hy : ¬ f.data.size + dt.size ≤ 262144) (hz :  (0 ≤ z ∧ z ≤ (f.data.size : Int))) :
    Calls Try.prog 8 #[.agg (dcells (.slice ad n cap) down fuse fault), .string b, .string dt, .int .i64 z] w fun e w' => e = .returned (.bool true) ∧ Below w.heap.size w w' := by
  have hb0 := (Below.refl w.heap.size w).alloc (Nat.le_refl _) (.cells (dcells (.slice ad n cap) down fuse fault) 24)
  have hx := blk_new w (.cells (dcells (.slice ad n cap) down fuse fault) 24)
  have Hb0 := Lib.hid hb0
  have Hx := Lib.hid hx
  have H := Lib.hid h
  clear h hb0 hx
  have Hrd := Lib.hid hrd
  subst hdn
  have hok := hR.ok f (found_mem hfd)
  have hfz := hok.2.1
  obtain ⟨gs5, e5, hr5, hd5⟩ := doo_5 (d := ⟨#[]⟩) (z := 0) hR hfd
  have E5 := Lib.hid e5
  have D5 := Lib.hid hd5
  have F5 := Lib.hid (fun x hx => okF_fit (hr5.ok x hx))
  have E2 := Lib.hid (doo_2_full (d := dt) (z := 0) hR hfd hy)
  obtain ⟨gs4, e4, hr4, hd4⟩ := doo_4 (d := ⟨#[]⟩) hR hfd hz
  have E4 := Lib.hid e4
  have D4 := Lib.hid hd4
  have F4 := Lib.hid (fun x hx => okF_fit (hr4.ok x hx))
  have hq4 := str_is (rfl : f.data.extract 0 z.toNat = f.data.extract 0 z.toNat)
  obtain ⟨hza, hzb⟩ := hz
  have hzd : decide (0 ≤ z) = true := decide_eq_true hza
  have hze : decide (z ≤ (f.data.size : Int)) = true := decide_eq_true hzb
  clear e4 hr4 hd4
  have HR := Lib.hid hR
  clear hR hfd hrd hok e5 hr5 hd5 hy
  go_enter Try.func8, Try.ntmps8
  go_wp2_with fail
  refine (lives_any _).mono ?_
  rintro e w1 ⟨rfl, hb1⟩
  have hX1 : Dk w1 w.heap.size 24 (.slice ad n cap) false fuse fault := (hb1.block _ (Array.getElem?_eq_some_iff.1 Hx.out).1).trans Hx.out
  have hbV := ((Hb0.out.trans (hb1.mono Hb0.out.size)).setCell (p := ⟨w.heap.size, 2, none⟩) (Nat.le_refl _) (.int .i64 (-1))).setCell (p := ⟨w.heap.size, 3, none⟩) (Nat.le_refl _) (.int .i64 (-1))
  have hDV := (hX1.set2 (-1)).set3 (-1)
  have Hb1 := Lib.hid hbV
  have HD1 := Lib.hid hDV
  have HI1 := Lib.hid (⟨(H.out.i.keep hbV).mono hbV.size, H.out.fit, by omega, by omega, by omega, by omega⟩ : DIn _ ad n cap (-1) (-1) fs)
  obtain ⟨⟨x0, x1, x2, x3⟩, g0, g1, g2, g3⟩ := hX1.facts
  obtain ⟨⟨y0, y1, y2, y3⟩, _⟩ := hDV.facts
  have hlt1 := hX1.lt
  clear hb1 hX1 hbV hDV
  go_wp2_with fail
  refine (Read_any _ ad n cap false (-1) (-1) fs b HI1.out hbl).mono ?_
  rw [Hrd.out]
  rintro e w2 ⟨rfl, hb⟩
  have hD := HD1.out.keep hb HD1.out.lt
  have Hb2 := Lib.hid (Hb1.out.trans (hb.mono Hb1.out.size))
  have HI2 := Lib.hid (HI1.out.under hb)
  have HD2 := Lib.hid hD
  clear x0 x1 x2 x3 g0 g1 g2 g3 y0 y1 y2 y3 hlt1
  obtain ⟨⟨x0, x1, x2, x3⟩, _⟩ := hD.facts
  clear hb hD
  go_wp2_with fail
  refine (call24_any _ ad n cap false (-1) (-1) fs b dt HI2.out hbl hdl).mono ?_
  rw [E2.out]
  rintro e w3 ⟨ad3, n3, cap3, rfl, hi, hb, hf⟩
  have hal := (Below.refl w3.heap.size w3).alloc (Nat.le_refl _) (.cells (dcells (.slice ad3 n3 cap3) false (-1) (-1)) 24)
  have HV3 := Lib.hid (Var.new (down := false) (fuse := -1) (fault := -1) hi)
  have hb' := hb.trans (hal.mono hb.size)
  have Hb3 := Lib.hid (Hb2.out.trans (hb'.mono Hb2.out.size))
  have HI3 := Lib.hid (HI2.out.under hb')
  have hD := HD2.out.keep hb' HD2.out.lt
  have HD3 := Lib.hid hD
  clear x0 x1 x2 x3
  obtain ⟨⟨x0, x1, x2, x3⟩, _⟩ := hD.facts
  obtain ⟨⟨v0, v1, v2, v3⟩, _⟩ := HV3.out.d.facts
  clear hi hb hf hal hb' hD
  clear v0 v1 v2 v3
  go_wp2_with fail
  refine (call25_any _ ad n cap false (-1) (-1) fs b ⟨#[]⟩ z HI3.out hbl (by decide)).mono ?_
  rw [E4.out]
  rintro e w4 ⟨ad4, n4, cap4, rfl, hi, hb, hf⟩
  have hal := (Below.refl w4.heap.size w4).alloc (Nat.le_refl _) (.cells (dcells (.slice ad4 n4 cap4) false (-1) (-1)) 24)
  have HV4 := Lib.hid (Var.new (down := false) (fuse := -1) (fault := -1) hi)
  have hb' := hb.trans (hal.mono hb.size)
  have Hb4 := Lib.hid (Hb3.out.trans (hb'.mono Hb3.out.size))
  have HI4 := Lib.hid (HI3.out.under hb')
  have hD := HD3.out.keep hb' HD3.out.lt
  have HD4 := Lib.hid hD
  clear x0 x1 x2 x3
  obtain ⟨⟨x0, x1, x2, x3⟩, _⟩ := hD.facts
  obtain ⟨⟨v0, v1, v2, v3⟩, _⟩ := HV4.out.d.facts
  clear hi hb hf hal hb' hD
  go_wp2_with fail
  refine (Read_any _ ad4 n4 cap4 false (-1) (-1) _ b ⟨HV4.out.i, F4.out, by omega, by omega, by omega, by omega⟩ hbl).mono ?_
  rw [D4.out]
  rintro e w5 ⟨rfl, hb⟩
  have Hb5 := Lib.hid (Hb4.out.trans (hb.mono Hb4.out.size))
  have HI5 := Lib.hid (HI4.out.under hb)
  have hD := HD4.out.keep hb HD4.out.lt
  have HD5 := Lib.hid hD
  clear x0 x1 x2 x3 v0 v1 v2 v3
  obtain ⟨⟨x0, x1, x2, x3⟩, _⟩ := hD.facts
  clear hb hD
  go_wp2_with fail
  refine (call26_any _ ad n cap false (-1) (-1) fs b ⟨#[]⟩ HI5.out hbl (by decide)).mono ?_
  rw [E5.out]
  rintro e w6 ⟨ad6, n6, cap6, rfl, hi, hb, hf⟩
  have hal := (Below.refl w6.heap.size w6).alloc (Nat.le_refl _) (.cells (dcells (.slice ad6 n6 cap6) false (-1) (-1)) 24)
  have HV6 := Lib.hid (Var.new (down := false) (fuse := -1) (fault := -1) hi)
  have hb' := hb.trans (hal.mono hb.size)
  have Hb6 := Lib.hid (Hb5.out.trans (hb'.mono Hb5.out.size))
  have HI6 := Lib.hid (HI5.out.under hb')
  have hD := HD5.out.keep hb' HD5.out.lt
  have HD6 := Lib.hid hD
  clear x0 x1 x2 x3
  obtain ⟨⟨x0, x1, x2, x3⟩, _⟩ := hD.facts
  obtain ⟨⟨v0, v1, v2, v3⟩, _⟩ := HV6.out.d.facts
  clear hi hb hf hal hb' hD
  go_wp2_with fail
  refine (Read_any _ ad6 n6 cap6 false (-1) (-1) _ b ⟨HV6.out.i, F5.out, by omega, by omega, by omega, by omega⟩ hbl).mono ?_
  rw [D5.out]
  rintro e w7 ⟨rfl, hb⟩
  have Hb7 := Lib.hid (Hb6.out.trans (hb.mono Hb6.out.size))
  have HI7 := Lib.hid (HI6.out.under hb)
  have hD := HD6.out.keep hb HD6.out.lt
  have HD7 := Lib.hid hD
  clear x0 x1 x2 x3 v0 v1 v2 v3
  obtain ⟨⟨x0, x1, x2, x3⟩, _⟩ := hD.facts
  clear hb hD
  go_wp2
  go_ret
  exact ⟨rfl, Hb7.out⟩

set_option maxHeartbeats 8000000 in
theorem walk_bb (w : World) (ad : Option Addr) (n cap : Nat) (down : Bool) (fuse fault : Int) (fs : List F) (b dt : ByteArray) (z : Int) (h : DIn w ad n cap fuse fault fs)
    (hbl : b.size ≤ 9223372036854775807) (hdl : dt.size ≤ 9223372036854775807) (hz0 : -9223372036854775808 ≤ z) (hz1 : z ≤ 9223372036854775807) (f : F) (hR : Right fs) (hdn : down = false) (hfd : found fs b = some f) (hrd : rdv ⟨fs, down, -1, -1⟩ b = (f.data, 0)) (hy : ¬ f.data.size + dt.size ≤ 262144) (hz : ¬ (0 ≤ z ∧ z ≤ (f.data.size : Int))) :
    Calls Try.prog 8 #[.agg (dcells (.slice ad n cap) down fuse fault), .string b, .string dt, .int .i64 z] w fun e w' => e = .returned (.bool true) ∧ Below w.heap.size w w' := by
  have hb0 := (Below.refl w.heap.size w).alloc (Nat.le_refl _) (.cells (dcells (.slice ad n cap) down fuse fault) 24)
  have hx := blk_new w (.cells (dcells (.slice ad n cap) down fuse fault) 24)
  have Hb0 := Lib.hid hb0
  have Hx := Lib.hid hx
  have H := Lib.hid h
  clear h hb0 hx
  have Hrd := Lib.hid hrd
  subst hdn
  have hok := hR.ok f (found_mem hfd)
  have hfz := hok.2.1
  obtain ⟨gs5, e5, hr5, hd5⟩ := doo_5 (d := ⟨#[]⟩) (z := 0) hR hfd
  have E5 := Lib.hid e5
  have D5 := Lib.hid hd5
  have F5 := Lib.hid (fun x hx => okF_fit (hr5.ok x hx))
  have E2 := Lib.hid (doo_2_full (d := dt) (z := 0) hR hfd hy)
  have E4 := Lib.hid (doo_4_bad (d := ⟨#[]⟩) hR hfd hz)
  have Hz := Lib.hid hz
  clear hz
  have HR := Lib.hid hR
  clear hR hfd hrd hok e5 hr5 hd5 hy
  go_enter Try.func8, Try.ntmps8
  go_wp2_with fail
  refine (lives_any _).mono ?_
  rintro e w1 ⟨rfl, hb1⟩
  have hX1 : Dk w1 w.heap.size 24 (.slice ad n cap) false fuse fault := (hb1.block _ (Array.getElem?_eq_some_iff.1 Hx.out).1).trans Hx.out
  have hbV := ((Hb0.out.trans (hb1.mono Hb0.out.size)).setCell (p := ⟨w.heap.size, 2, none⟩) (Nat.le_refl _) (.int .i64 (-1))).setCell (p := ⟨w.heap.size, 3, none⟩) (Nat.le_refl _) (.int .i64 (-1))
  have hDV := (hX1.set2 (-1)).set3 (-1)
  have Hb1 := Lib.hid hbV
  have HD1 := Lib.hid hDV
  have HI1 := Lib.hid (⟨(H.out.i.keep hbV).mono hbV.size, H.out.fit, by omega, by omega, by omega, by omega⟩ : DIn _ ad n cap (-1) (-1) fs)
  obtain ⟨⟨x0, x1, x2, x3⟩, g0, g1, g2, g3⟩ := hX1.facts
  obtain ⟨⟨y0, y1, y2, y3⟩, _⟩ := hDV.facts
  have hlt1 := hX1.lt
  clear hb1 hX1 hbV hDV
  go_wp2_with fail
  refine (Read_any _ ad n cap false (-1) (-1) fs b HI1.out hbl).mono ?_
  rw [Hrd.out]
  rintro e w2 ⟨rfl, hb⟩
  have hD := HD1.out.keep hb HD1.out.lt
  have Hb2 := Lib.hid (Hb1.out.trans (hb.mono Hb1.out.size))
  have HI2 := Lib.hid (HI1.out.under hb)
  have HD2 := Lib.hid hD
  clear x0 x1 x2 x3 g0 g1 g2 g3 y0 y1 y2 y3 hlt1
  obtain ⟨⟨x0, x1, x2, x3⟩, _⟩ := hD.facts
  clear hb hD
  go_wp2_with fail
  refine (call24_any _ ad n cap false (-1) (-1) fs b dt HI2.out hbl hdl).mono ?_
  rw [E2.out]
  rintro e w3 ⟨ad3, n3, cap3, rfl, hi, hb, hf⟩
  have hal := (Below.refl w3.heap.size w3).alloc (Nat.le_refl _) (.cells (dcells (.slice ad3 n3 cap3) false (-1) (-1)) 24)
  have HV3 := Lib.hid (Var.new (down := false) (fuse := -1) (fault := -1) hi)
  have hb' := hb.trans (hal.mono hb.size)
  have Hb3 := Lib.hid (Hb2.out.trans (hb'.mono Hb2.out.size))
  have HI3 := Lib.hid (HI2.out.under hb')
  have hD := HD2.out.keep hb' HD2.out.lt
  have HD3 := Lib.hid hD
  clear x0 x1 x2 x3
  obtain ⟨⟨x0, x1, x2, x3⟩, _⟩ := hD.facts
  obtain ⟨⟨v0, v1, v2, v3⟩, _⟩ := HV3.out.d.facts
  clear hi hb hf hal hb' hD
  clear v0 v1 v2 v3
  go_wp2_with fail
  refine (call25_any _ ad n cap false (-1) (-1) fs b ⟨#[]⟩ z HI3.out hbl (by decide)).mono ?_
  rw [E4.out]
  rintro e w4 ⟨ad4, n4, cap4, rfl, hi, hb, hf⟩
  have hal := (Below.refl w4.heap.size w4).alloc (Nat.le_refl _) (.cells (dcells (.slice ad4 n4 cap4) false (-1) (-1)) 24)
  have HV4 := Lib.hid (Var.new (down := false) (fuse := -1) (fault := -1) hi)
  have hb' := hb.trans (hal.mono hb.size)
  have Hb4 := Lib.hid (Hb3.out.trans (hb'.mono Hb3.out.size))
  have HI4 := Lib.hid (HI3.out.under hb')
  have hD := HD3.out.keep hb' HD3.out.lt
  have HD4 := Lib.hid hD
  clear x0 x1 x2 x3
  obtain ⟨⟨x0, x1, x2, x3⟩, _⟩ := hD.facts
  obtain ⟨⟨v0, v1, v2, v3⟩, _⟩ := HV4.out.d.facts
  clear hi hb hf hal hb' hD
  clear v0 v1 v2 v3
  go_wp2_with fail
  refine (call26_any _ ad n cap false (-1) (-1) fs b ⟨#[]⟩ HI4.out hbl (by decide)).mono ?_
  rw [E5.out]
  rintro e w5 ⟨ad5, n5, cap5, rfl, hi, hb, hf⟩
  have hal := (Below.refl w5.heap.size w5).alloc (Nat.le_refl _) (.cells (dcells (.slice ad5 n5 cap5) false (-1) (-1)) 24)
  have HV5 := Lib.hid (Var.new (down := false) (fuse := -1) (fault := -1) hi)
  have hb' := hb.trans (hal.mono hb.size)
  have Hb5 := Lib.hid (Hb4.out.trans (hb'.mono Hb4.out.size))
  have HI5 := Lib.hid (HI4.out.under hb')
  have hD := HD4.out.keep hb' HD4.out.lt
  have HD5 := Lib.hid hD
  clear x0 x1 x2 x3
  obtain ⟨⟨x0, x1, x2, x3⟩, _⟩ := hD.facts
  obtain ⟨⟨v0, v1, v2, v3⟩, _⟩ := HV5.out.d.facts
  clear hi hb hf hal hb' hD
  go_wp2_with fail
  refine (Read_any _ ad5 n5 cap5 false (-1) (-1) _ b ⟨HV5.out.i, F5.out, by omega, by omega, by omega, by omega⟩ hbl).mono ?_
  rw [D5.out]
  rintro e w6 ⟨rfl, hb⟩
  have Hb6 := Lib.hid (Hb5.out.trans (hb.mono Hb5.out.size))
  have HI6 := Lib.hid (HI5.out.under hb)
  have hD := HD5.out.keep hb HD5.out.lt
  have HD6 := Lib.hid hD
  clear x0 x1 x2 x3 v0 v1 v2 v3
  obtain ⟨⟨x0, x1, x2, x3⟩, _⟩ := hD.facts
  clear hb hD
  by_cases hzn : 0 ≤ z
  · have hzd : decide (0 ≤ z) = true := decide_eq_true hzn
    have hze : decide (z ≤ (f.data.size : Int)) = false := decide_eq_false (fun q => Hz.out ⟨hzn, q⟩)
    have hzf : ¬ z ≤ (f.data.size : Int) := fun q => Hz.out ⟨hzn, q⟩
    go_wp2
    go_ret
    exact ⟨rfl, Hb6.out⟩
  · have hzd : decide (0 ≤ z) = false := decide_eq_false hzn
    go_wp2
    go_ret
    exact ⟨rfl, Hb6.out⟩

theorem walk (w : World) (ad : Option Addr) (n cap : Nat) (down : Bool) (fuse fault : Int) (fs : List F) (b dt : ByteArray) (z : Int) (h : DIn w ad n cap fuse fault fs)
    (hbl : b.size ≤ 9223372036854775807) (hdl : dt.size ≤ 9223372036854775807) (hz0 : -9223372036854775808 ≤ z) (hz1 : z ≤ 9223372036854775807) :
    Calls Try.prog 8 #[.agg (dcells (.slice ad n cap) down fuse fault), .string b, .string dt, .int .i64 z] w fun e w' => e = .returned (.bool true) ∧ Below w.heap.size w w' := by
  rcases rdv_cases ⟨fs, down, -1, -1⟩ b with ⟨h1, h2⟩ | ⟨f, hR, hdn, hfd, hrd⟩
  · obtain ⟨⟨s, c⟩, hr⟩ : ∃ r, rdv ⟨fs, down, -1, -1⟩ b = r := ⟨_, rfl⟩
    obtain ⟨⟨⟨gs, dn, fu, fa⟩, c2⟩, hd⟩ : ∃ r, doo ⟨fs, down, -1, -1⟩ ⟨2, b, dt, 0⟩ = r := ⟨_, rfl⟩
    exact walk_no w ad n cap down fuse fault fs b dt z h hbl hdl hz0 hz1 c s hr (by rw [hr] at h1; exact h1) gs dn fu fa c2 hd (by have := h2 dt 0; rw [hd] at this; exact this)
  · by_cases hy : f.data.size + dt.size ≤ 262144
    · by_cases hz : 0 ≤ z ∧ z ≤ (f.data.size : Int)
      · exact walk_aa w ad n cap down fuse fault fs b dt z h hbl hdl hz0 hz1 f hR hdn hfd hrd hy hz
      · exact walk_ab w ad n cap down fuse fault fs b dt z h hbl hdl hz0 hz1 f hR hdn hfd hrd hy hz
    · by_cases hz : 0 ≤ z ∧ z ≤ (f.data.size : Int)
      · exact walk_ba w ad n cap down fuse fault fs b dt z h hbl hdl hz0 hz1 f hR hdn hfd hrd hy hz
      · exact walk_bb w ad n cap down fuse fault fs b dt z h hbl hdl hz0 hz1 f hR hdn hfd hrd hy hz
theorem laidOut : laidOutB Try.prog = true := by kernel_rfl

set_option maxRecDepth 100000 in
theorem lifted (os : Os) (started : os.Started) (H : Type) (enc : TypeId × Value → H) :
    ReturnsInHanded {} Try.checked os 8 .any (Rows.diskReadsSpec.pre6 enc Try.prog Try.f8 Rows.diskReadsRow.domain false) (Rows.diskReadsSpec.post enc Try.prog Try.f8 false true false false) := by
  refine returnsInHanded_of_change (C := Try.checked) own started (by kernel_rfl) Try.func8
    (ChangeSpec.witness6 (enc := enc) (C := Try.checked) false ⟨#[], #[.agg #[.slice none 0 0, .bool false, .int .i64 0, .int .i64 0], .string ByteArray.empty, .string ByteArray.empty, .int .i64 0], []⟩ 8 (by kernel_rfl) (by kernel_rfl) (by kernel_rfl) (by kernel_rfl)) ?_
  intro W base args ds gs before hval0 hW hcnd _
  have hval : ∀ (j : Nat) t v, Try.f8.params[j]? = some t → args[j]? = some v → Value.okWide Try.prog W .any base t v := hval0
  have hW' := hW
  obtain ⟨p, q, hA0, hV, rfl, hfz, hnd⟩ := hW
  have hA : DataW.TrodAll enc Try.prog W 0 (fun _ => true) true Try.f8.params.toList args.toList ds p := hA0
  rw [Try.params8] at hA hval
  obtain ⟨v0, vs0, d0, ds0, p0, q0, hargs, rfl, rfl, h0, r0⟩ := trodAll_cons hA
  obtain ⟨v1, vs1, d1, ds1, p1, q1, rfl, rfl, rfl, h1, r1⟩ := trodAll_cons r0
  obtain ⟨v2, vs2, d2, ds2, p2, q2, rfl, rfl, rfl, h2, r2⟩ := trodAll_cons r1
  obtain ⟨v3, vs3, d3, ds3, p3, q3, rfl, rfl, rfl, h3, r3⟩ := trodAll_cons r2
  obtain ⟨rfl, rfl, rfl⟩ := trodAll_nil r3
  obtain rfl : args = #[v0, v1, v2, v3] := by cases args; simp_all
  obtain ⟨rfl, rfl⟩ := trodVars_none hV
  have k0 := h0
  have lt0 : ∀ x ∈ p0, x.block < W.heap.size := by obtain ⟨m, hm⟩ := k0; exact DataW.trod_lt m _ _ _ hm
  have k1 := h1
  have lt1 : ∀ x ∈ p1, x.block < W.heap.size := by obtain ⟨m, hm⟩ := k1; exact DataW.trod_lt m _ _ _ hm
  have k2 := h2
  have lt2 : ∀ x ∈ p2, x.block < W.heap.size := by obtain ⟨m, hm⟩ := k2; exact DataW.trod_lt m _ _ _ hm
  have k3 := h3
  have lt3 : ∀ x ∈ p3, x.block < W.heap.size := by obtain ⟨m, hm⟩ := k3; exact DataW.trod_lt m _ _ _ hm
  obtain ⟨ad, n, cap, down, fuse, fault, fs, rfl, hD⟩ := open_disk (hval 0 24 v0 rfl rfl) h0
  obtain ⟨b, rfl, rfl, rfl, wb⟩ := open_string Try.underlying9 (hval 1 9 v1 rfl rfl) h1
  obtain ⟨dt, rfl, rfl, rfl, wd⟩ := open_string Try.underlying9 (hval 2 9 v2 rfl rfl) h2
  obtain ⟨z, rfl, rfl, rfl, wz⟩ := open_int Try.underlying3 (hval 3 3 v3 rfl rfl) h3
  have bz := bounds_i64 wz
  clear hA0 hval0
  refine (walk W ad n cap down fuse fault fs b dt z hD (by simpa [maxLen] using wb) (by simpa [maxLen] using wd) bz.1 bz.2).mono fun e W' ⟨he, bel⟩ => ?_
  subst he
  exact ⟨_, rfl, _, _, _, [], _, [], hW', trodAll_mk1 (shut_bool Try.underlying4 _), (trodAll_cons_mk (Below.trod laidOut (by kernel_rfl) (of_decide_eq_true (by kernel_rfl)) k0 bel lt0) (trodAll_cons_mk (shut_string Try.underlying9 wb) (trodAll_cons_mk (shut_string Try.underlying9 wd) (trodAll_cons_mk (shut_int Try.underlying3 wz) trodAll_mk0)))), rfl, bel.frame _, fun h => by cases h⟩

theorem over : Rows.diskReadsRow.holds Try.pinned (OpenSpec.ofChange Rows.diskReadsSpec) :=
  OpenClaim.holds_of_wide 8 Try.f8 rfl rfl rfl rfl rfl rfl rfl ⟨rfl, rfl, rfl, rfl, rfl⟩ rfl rfl rfl rfl rfl (by kernel_rfl) Try.func8 (by kernel_rfl)
    (of_decide_eq_true (by kernel_rfl)) (by unfold Func.isWrapper; rw [if_neg (by decide +kernel)]; exact ⟨rfl, rfl⟩)
    (fun os started H enc _ => lifted os started H enc)

theorem proved : Rows.DiskReadsSaid := over
#print axioms proved
end Go.Proofs.Ytcefhcailhediaa.diskReads
