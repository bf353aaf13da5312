/- CONF: THE WALK OVER ConfLevels. -/
import Derived.Test.YtegobomfhdfodaaGreatDoorEg
import Derived.Test.YtegobomfhdfodaaGreatDoorDtb
namespace Go.Proofs.YtegobomfhdfodaaGreatDoor
open Go.RowKit
set_option maxRecDepth 100000
set_option linter.unusedVariables false
set_option linter.unusedSimpArgs false

set_option maxHeartbeats 8000000 in
theorem lev_p1 {B : Nat → Prop} (w : World) (q1 q2 : Value) (x : Nd) (key t t2 : K.T) (c : Int) (hk : key.length ≤ 140737488353000) (hr : Rep B w q1 q2 x) (hT : Tb w) (h1 : K.print x = .error c) :
    Calls Tryz.prog 9 #[.agg (nv x q1 q2), S key] w fun e w' => e = .returned (.bool true) ∧ Below w.heap.size w w' := by
  obtain ⟨ad1, cap1, rfl, _⟩ := hr.parts.2.1.form
  obtain ⟨ad2, cap2, rfl, hl2⟩ := hr.parts.2.2.form
  obtain ⟨W, hW⟩ : ∃ W, W = w.alloc (.cells (nv x (.slice ad1 x.l.length cap1) (.slice ad2 x.p.length cap2)) 32) := ⟨_, rfl⟩
  have hF : FW w x (.slice ad1 x.l.length cap1) (.slice ad2 x.p.length cap2) W := by rw [hW]; exact ⟨(Below.refl _ w).alloc (Nat.le_refl _) _, blk_new w _⟩
  obtain ⟨hc1, hc2⟩ : ¬ c = 0 ∧ (c == 0) = false := by rcases K.print_err h1 with ⟨h, _⟩ | ⟨h, _⟩ <;> subst h <;> decide
  have hP1 : ∀ V, FW w x (.slice ad1 x.l.length cap1) (.slice ad2 x.p.length cap2) V → Calls Tryz.prog 15 #[.agg (nv x (.slice ad1 x.l.length cap1) (.slice ad2 x.p.length cap2))] V fun e w' => Below V.heap.size V w' ∧ e = .returned (.tuple #[S [], .int .i64 c]) := fun V h => prints_err h1 V _ _ (h.rep hr) (hT.under h.bel)
  obtain ⟨d, hd⟩ : ∃ d, K.shownR (K.print (K.under key x)) = d := ⟨_, rfl⟩
  have hP2 : ∀ V, FW w x (.slice ad1 x.l.length cap1) (.slice ad2 x.p.length cap2) V → Calls Tryz.prog 15 #[.agg #[.int .u8 0, .string ⟨#[]⟩, .slice none 0 0, .slice (some ⟨V.heap.size, 0, none⟩) 1 1]] (V.alloc (.cells (kv key x (.slice ad1 x.l.length cap1) (.slice ad2 x.p.length cap2)) 44)) fun e w' => Below V.heap.size V w' ∧ ∃ s c, e = .returned (.tuple #[S s, .int .i64 c]) := fun V h => by
    refine (print_any _ _ _ (K.under key x) (rep_under V _ _ x key (h.rep hr) hk) ((hT.under h.bel).under ((Below.refl _ V).alloc (Nat.le_refl _) _))).mono fun e w' ⟨h1, h2⟩ => ⟨((Below.refl _ V).alloc (Nat.le_refl _) _).trans (h1.mono (by simp)), ?_⟩
    rw [h2]
    cases K.print (K.under key x) with
    | ok s => exact ⟨s, 0, rfl⟩
    | error c => exact ⟨[], c, rfl⟩
  clear hd
  have HR := Lib.hid hr
  have HW := Lib.hid hW
  have F1 := Lib.hid hF
  have HT := Lib.hid hT
  have HP1 := Lib.hid hP1
  have HP2 := Lib.hid hP2
  clear hr hW hF hT hP1 hP2 h1 hk
  go_enter Tryz.func9, Tryz.ntmps9
  go_upto_region 1 with (fail)
  rw [← HW.out]
  go_wp2_with fail
  refine (lives_any W (HT.out.under F1.out.bel)).mono ?_
  rintro e w2 ⟨rfl, hb2⟩
  have F2 := Lib.hid (F1.out.under hb2)
  obtain ⟨c0, c1, c2', c3⟩ := four F2.out.bx
  have hl0 := blk_lt F2.out.bx
  clear hb2
  go_wp2_with fail
  refine (HP1.out w2 F2.out).mono ?_
  rintro e w3 ⟨hb3, rfl⟩
  have F3 := Lib.hid (F2.out.under hb3)
  clear hb3 c0 c1 c2' c3 hl0
  obtain ⟨c0, c1, c2', c3⟩ := four F3.out.bx
  have hl0 := blk_lt F3.out.bx
  go_wp2_with fail
  refine (HP2.out w3 F3.out).mono ?_
  rintro e w4 ⟨hb4, s2, cz, rfl⟩
  have F4 := Lib.hid (F3.out.under hb4)
  clear hb4 c0 c1 c2' c3 hl0
  go_wp2
  refine bodyPost_ret (v := .bool true) (by simp [results, Tryz.results9, go_sem]) rfl ?_
  exact ⟨rfl, F4.out.bel⟩
set_option maxHeartbeats 8000000 in
theorem lev_p2 {B : Nat → Prop} (w : World) (q1 q2 : Value) (x : Nd) (key t t2 : K.T) (c : Int) (hk : key.length ≤ 140737488353000) (hr : Rep B w q1 q2 x) (hT : Tb w) (h1 : K.print x = .ok t) (h2 : K.print (K.under key x) = .error c) :
    Calls Tryz.prog 9 #[.agg (nv x q1 q2), S key] w fun e w' => e = .returned (.bool true) ∧ Below w.heap.size w w' := by
  obtain ⟨ad1, cap1, rfl, _⟩ := hr.parts.2.1.form
  obtain ⟨ad2, cap2, rfl, hl2⟩ := hr.parts.2.2.form
  obtain ⟨W, hW⟩ : ∃ W, W = w.alloc (.cells (nv x (.slice ad1 x.l.length cap1) (.slice ad2 x.p.length cap2)) 32) := ⟨_, rfl⟩
  have hF : FW w x (.slice ad1 x.l.length cap1) (.slice ad2 x.p.length cap2) W := by rw [hW]; exact ⟨(Below.refl _ w).alloc (Nat.le_refl _) _, blk_new w _⟩
  obtain ⟨hri, hte, htl, hpt, hpx⟩ := K.print_ok h1
  have hP1 : ∀ V, FW w x (.slice ad1 x.l.length cap1) (.slice ad2 x.p.length cap2) V → Calls Tryz.prog 15 #[.agg (nv x (.slice ad1 x.l.length cap1) (.slice ad2 x.p.length cap2))] V fun e w' => Below V.heap.size V w' ∧ e = .returned (.tuple #[S t, .int .i64 0]) := fun V h => prints_ok h1 V _ _ (h.rep hr) (hT.under h.bel)
  have hk0 : x.k = 0 := by rw [← hpx]; rfl
  have hts := S_size t
  obtain ⟨tn, htn⟩ : ∃ n, t.length = n := ⟨_, rfl⟩
  rw [htn] at hts htl
  obtain ⟨hc1, hc2⟩ : ¬ c = 0 ∧ (c == 0) = false := by rcases K.print_err h2 with ⟨h, _⟩ | ⟨h, _⟩ <;> subst h <;> decide
  have hP2 : ∀ V, FW w x (.slice ad1 x.l.length cap1) (.slice ad2 x.p.length cap2) V → Calls Tryz.prog 15 #[.agg #[.int .u8 0, .string ⟨#[]⟩, .slice none 0 0, .slice (some ⟨V.heap.size, 0, none⟩) 1 1]] (V.alloc (.cells (kv key x (.slice ad1 x.l.length cap1) (.slice ad2 x.p.length cap2)) 44)) fun e w' => Below V.heap.size V w' ∧ e = .returned (.tuple #[S [], .int .i64 c]) := fun V h =>
    (prints_err h2 _ _ _ (rep_under V _ _ x key (h.rep hr) hk) ((hT.under h.bel).under ((Below.refl _ V).alloc (Nat.le_refl _) _))).mono fun e w' ⟨h1, h2⟩ => ⟨((Below.refl _ V).alloc (Nat.le_refl _) _).trans (h1.mono (by simp)), h2⟩
  clear htn hts
  clear hri hte htl hpt hpx hk0 h2
  have HR := Lib.hid hr
  have HW := Lib.hid hW
  have F1 := Lib.hid hF
  have HT := Lib.hid hT
  have HP1 := Lib.hid hP1
  have HP2 := Lib.hid hP2
  clear hr hW hF hT hP1 hP2 h1 hk
  go_enter Tryz.func9, Tryz.ntmps9
  go_upto_region 1 with (fail)
  rw [← HW.out]
  go_wp2_with fail
  refine (lives_any W (HT.out.under F1.out.bel)).mono ?_
  rintro e w2 ⟨rfl, hb2⟩
  have F2 := Lib.hid (F1.out.under hb2)
  obtain ⟨c0, c1, c2', c3⟩ := four F2.out.bx
  have hl0 := blk_lt F2.out.bx
  clear hb2
  go_wp2_with fail
  refine (HP1.out w2 F2.out).mono ?_
  rintro e w3 ⟨hb3, rfl⟩
  have F3 := Lib.hid (F2.out.under hb3)
  clear hb3 c0 c1 c2' c3 hl0
  obtain ⟨c0, c1, c2', c3⟩ := four F3.out.bx
  have hl0 := blk_lt F3.out.bx
  go_wp2_with fail
  refine (HP2.out w3 F3.out).mono ?_
  rintro e w4 ⟨hb4, rfl⟩
  have F4 := Lib.hid (F3.out.under hb4)
  clear hb4 c0 c1 c2' c3 hl0
  go_wp2
  refine bodyPost_ret (v := .bool true) (by simp [results, Tryz.results9, go_sem]) rfl ?_
  exact ⟨rfl, F4.out.bel⟩
set_option maxHeartbeats 8000000 in
theorem lev_long {B : Nat → Prop} (w : World) (q1 q2 : Value) (x : Nd) (key t t2 : K.T) (c : Int) (hk : key.length ≤ 140737488353000) (hr : Rep B w q1 q2 x) (hT : Tb w) (h1 : K.print x = .ok t) (h2 : K.print (K.under key x) = .ok t2) (h3 : 16384 < t.length + 9) :
    Calls Tryz.prog 9 #[.agg (nv x q1 q2), S key] w fun e w' => e = .returned (.bool true) ∧ Below w.heap.size w w' := by
  obtain ⟨ad1, cap1, rfl, _⟩ := hr.parts.2.1.form
  obtain ⟨ad2, cap2, rfl, hl2⟩ := hr.parts.2.2.form
  obtain ⟨W, hW⟩ : ∃ W, W = w.alloc (.cells (nv x (.slice ad1 x.l.length cap1) (.slice ad2 x.p.length cap2)) 32) := ⟨_, rfl⟩
  have hF : FW w x (.slice ad1 x.l.length cap1) (.slice ad2 x.p.length cap2) W := by rw [hW]; exact ⟨(Below.refl _ w).alloc (Nat.le_refl _) _, blk_new w _⟩
  obtain ⟨hri, hte, htl, hpt, hpx⟩ := K.print_ok h1
  have hP1 : ∀ V, FW w x (.slice ad1 x.l.length cap1) (.slice ad2 x.p.length cap2) V → Calls Tryz.prog 15 #[.agg (nv x (.slice ad1 x.l.length cap1) (.slice ad2 x.p.length cap2))] V fun e w' => Below V.heap.size V w' ∧ e = .returned (.tuple #[S t, .int .i64 0]) := fun V h => prints_ok h1 V _ _ (h.rep hr) (hT.under h.bel)
  have hk0 : x.k = 0 := by rw [← hpx]; rfl
  have hts := S_size t
  obtain ⟨tn, htn⟩ : ∃ n, t.length = n := ⟨_, rfl⟩
  rw [htn] at hts htl
  have hP2 : ∀ V, FW w x (.slice ad1 x.l.length cap1) (.slice ad2 x.p.length cap2) V → Calls Tryz.prog 15 #[.agg #[.int .u8 0, .string ⟨#[]⟩, .slice none 0 0, .slice (some ⟨V.heap.size, 0, none⟩) 1 1]] (V.alloc (.cells (kv key x (.slice ad1 x.l.length cap1) (.slice ad2 x.p.length cap2)) 44)) fun e w' => Below V.heap.size V w' ∧ e = .returned (.tuple #[S t2, .int .i64 0]) := fun V h =>
    (prints_ok h2 _ _ _ (rep_under V _ _ x key (h.rep hr) hk) ((hT.under h.bel).under ((Below.refl _ V).alloc (Nat.le_refl _) _))).mono fun e w' ⟨h1, h2⟩ => ⟨((Below.refl _ V).alloc (Nat.le_refl _) _).trans (h1.mono (by simp)), h2⟩
  obtain ⟨_, hte2, htl2, hpt2, hpx2⟩ := K.print_ok h2
  obtain ⟨y, hy⟩ : ∃ y, y = K.under key x := ⟨_, rfl⟩
  have hP3 : ∀ V, Below w.heap.size w V → Calls Tryz.prog 16 #[S t2] V (ParsR V y 0 0) := fun V h => by
    have := parses_ok hpt2 V (by omega) (hT.under h)
    rw [hpx2, ← hy] at this
    exact this
  have hP4 : ∀ V q1 q2, Rep Any V q1 q2 y → Calls Tryz.prog 19 #[.agg (nv y q1 q2), .slice (some ⟨V.heap.size, 0, none⟩) 1 1] (V.alloc (.cells #[S key] 9)) (AnsR V x true) := fun V q1 q2 h => by
    have := gets_one V q1 q2 y key hk h
    rw [hy, K.get_under] at this
    rw [hy]
    exact this
  have hP6 : ∀ V, FW w x (.slice ad1 x.l.length cap1) (.slice ad2 x.p.length cap2) V → Calls Tryz.prog 19 #[.agg (nv x (.slice ad1 x.l.length cap1) (.slice ad2 x.p.length cap2)), .slice (some ⟨V.heap.size, 0, none⟩) 1 1] (V.alloc (.cells #[.string ⟨#[122, 122]⟩] 9)) (AnsR V (K.ans (K.get x [K.zz])) (K.find x.p K.zz).isSome) := fun V h => by
    have := gets_one V _ _ x K.zz (by decide) (h.rep hr)
    rw [K.get_is hk0] at this
    skip
    exact this
  obtain ⟨z6, hz6⟩ : ∃ z, K.ans (K.get x [K.zz]) = z := ⟨_, rfl⟩
  rw [hz6] at hP6
  obtain ⟨b6, hb6⟩ : ∃ b, (K.find x.p K.zz).isSome = b := ⟨_, rfl⟩
  rw [hb6] at hP6
  obtain ⟨o, ho⟩ : ∃ o, K.parse (t ++ K.lit9) = .error o := ⟨_, K.more_long h3⟩
  obtain ⟨ho1, ho2⟩ := K.parse_err ho
  have ho3 : (o.1 != 0) = true := by rw [bne_iff_ne]; exact ho1
  have hP5 : ∀ V, Below w.heap.size w V → Calls Tryz.prog 16 #[S (t ++ K.lit9)] V (ParsR V Nd.zero o.1 o.2) := fun V h => parses_err ho V (by simp only [List.length_append, List.length_cons, List.length_nil]; omega) (hT.under h)
  obtain ⟨o1, o2⟩ := o
  simp only at ho1 ho2 ho3 hP5
  clear ho hb6
  obtain ⟨pn, hpn⟩ : ∃ n, n = x.p.length := ⟨_, rfl⟩
  have hr0 := hr
  rw [← hpn] at hF hP1 hP2 hP6 hr hW ⊢
  have hg1 : 16384 < (tn : Int) + 9 := by omega
  have hg2 : (tn : Int) ≤ 100000 := by omega
  have HPN := Lib.hid hpn
  have HTN := Lib.hid htn
  have HP3 := Lib.hid hP3
  have HP4 := Lib.hid hP4
  have HP5 := Lib.hid hP5
  have HP6 := Lib.hid hP6
  clear hte2 htl2 hpt2 hpx2 hy hP3 hP4 hP5 hP6 hz6 hpn htn hr0 h3
  clear hri hte htl hpt hpx hk0 h2
  have HR := Lib.hid hr
  have HW := Lib.hid hW
  have F1 := Lib.hid hF
  have HT := Lib.hid hT
  have HP1 := Lib.hid hP1
  have HP2 := Lib.hid hP2
  clear hr hW hF hT hP1 hP2 h1 hk
  go_enter Tryz.func9, Tryz.ntmps9
  go_upto_region 1 with (fail)
  rw [← HW.out]
  go_wp2_with fail
  refine (lives_any W (HT.out.under F1.out.bel)).mono ?_
  rintro e w2 ⟨rfl, hb2⟩
  have F2 := Lib.hid (F1.out.under hb2)
  obtain ⟨c0, c1, c2', c3⟩ := four F2.out.bx
  have hl0 := blk_lt F2.out.bx
  clear hb2
  go_wp2_with fail
  refine (HP1.out w2 F2.out).mono ?_
  rintro e w3 ⟨hb3, rfl⟩
  have F3 := Lib.hid (F2.out.under hb3)
  clear hb3 c0 c1 c2' c3 hl0
  obtain ⟨c0, c1, c2', c3⟩ := four F3.out.bx
  have hl0 := blk_lt F3.out.bx
  go_wp2_with fail
  refine (HP2.out w3 F3.out).mono ?_
  rintro e w4 ⟨hb4, rfl⟩
  have F4 := Lib.hid (F3.out.under hb4)
  clear hb4 c0 c1 c2' c3 hl0
  go_wp2_with fail
  refine (HP3.out w4 F4.out.bel).mono ?_
  rintro e w5 ⟨hb5, a5, e5, rfl, hr5⟩
  obtain ⟨X5, hX5⟩ : ∃ X, X = w5.alloc (.cells (nv y (.slice none y.l.length 0) (.slice a5 y.p.length e5)) 32) := ⟨_, rfl⟩
  obtain ⟨hbX, hbk⟩ := box_new w5 y _ _ hX5
  have F5 := Lib.hid ((F4.out.under hb5).under hbX)
  have HG := Lib.hid (HP4.out X5 _ _ (hr5.under hbX))
  have HX5 := Lib.hid hX5
  obtain ⟨d0, d1, d2, d3⟩ := four hbk
  have hl5 := blk_lt hbk
  clear hb5 hr5 hX5 hbX hbk
  go_upto_region 8 with (fail)
  rw [← HX5.out]
  go_wp2_with fail
  refine (HG.out).mono ?_
  rintro e w6 ⟨hb6, a6, e6, a7, e7, rfl, hr6, _⟩
  obtain ⟨X6, hX6⟩ : ∃ X, X = w6.alloc (.cells (nv x (.slice a6 x.l.length e6) (.slice a7 x.p.length e7)) 32) := ⟨_, rfl⟩
  obtain ⟨hbX, hbk⟩ := box_new w6 x _ _ hX6
  have F6 := Lib.hid ((F5.out.under hb6).under hbX)
  have HS := Lib.hid (same_yes x _ _ X6 _ _ _ _ (hr6.under hbX) (F6.out.rep HR.out))
  have HX6 := Lib.hid hX6
  rw [← HPN.out] at HS
  obtain ⟨f0, f1, f2, f3⟩ := four hbk
  rw [← HPN.out] at f3
  have hl6 := blk_lt hbk
  obtain ⟨c0, c1, c2', c3⟩ := four F6.out.bx
  have hl0 := blk_lt F6.out.bx
  clear hb6 hr6 hX6 hbX hbk d0 d1 d2 d3 hl5
  go_upto_region 9 with (fail)
  rw [← HX6.out]
  go_wp2_with fail
  refine (HS.out).mono ?_
  rintro e w7 ⟨rfl, hb7⟩
  have F7 := Lib.hid (F6.out.under hb7)
  clear hb7 f0 f1 f2 f3 c0 c1 c2' c3 hl0 hl6
  go_wp2_with fail
  rw [show Value.string ({ data := t.toArray } ++ { data := #[122, 122, 58, 32, 108, 97, 115, 116, 10] }) = S (t ++ K.lit9) from cat2 t K.lit9]
  refine (HP5.out w7 F7.out.bel).mono ?_
  rintro e w8 ⟨hb8, a8, e8, rfl, hr8⟩
  obtain ⟨X8, hX8⟩ : ∃ X, X = w8.alloc (.cells (nv Nd.zero (.slice none Nd.zero.l.length 0) (.slice a8 Nd.zero.p.length e8)) 32) := ⟨_, rfl⟩
  obtain ⟨hbX, hbk⟩ := box_new w8 Nd.zero _ _ hX8
  have F8 := Lib.hid ((F7.out.under hb8).under hbX)
  have HR8 := Lib.hid (hr8.under hbX)
  have HB8 := Lib.hid hbk
  have HX8 := Lib.hid hX8
  obtain ⟨c0, c1, c2', c3⟩ := four F8.out.bx
  have hl0 := blk_lt F8.out.bx
  clear hb8 hr8 hX8 hbX hbk
  go_upto_region 12 with (fail)
  rw [← HX8.out]
  obtain ⟨g8, hg8⟩ : ∃ g, g = w8.heap.size := ⟨_, rfl⟩
  have HG8 := Lib.hid hg8
  rw [← hg8] at HB8 ⊢
  clear hg8
  go_wp2_with fail
  refine (HP6.out X8 F8.out).mono ?_
  rintro e w9 ⟨hb9, a9, e9, a10, e10, rfl, hr9, _⟩
  obtain ⟨X9, hX9⟩ : ∃ X, X = w9.alloc (.cells (nv z6 (.slice a9 z6.l.length e9) (.slice a10 z6.p.length e10)) 32) := ⟨_, rfl⟩
  obtain ⟨hbX, hbk⟩ := box_new w9 z6 _ _ hX9
  have hbb := hb9.trans (hbX.mono hb9.size)
  have F9 := Lib.hid (F8.out.under hbb)
  have HR9 := Lib.hid (HR8.out.under hbb)
  have HB9 := Lib.hid (HB8.out.under hbb)
  have HX9 := Lib.hid hX9
  clear hb9 hr9 hX9 hbX hbk hbb c0 c1 c2' c3 hl0
  obtain ⟨c0, c1, c2', c3⟩ := four F9.out.bx
  have hl0 := blk_lt F9.out.bx
  go_upto_region 13 with (fail)
  rw [← HX9.out]
  go_wp2
  refine bodyPost_ret (v := .bool true) (by simp [results, Tryz.results9, go_sem]) rfl ?_
  exact ⟨rfl, F9.out.bel⟩
set_option maxHeartbeats 8000000 in
theorem lev_many {B : Nat → Prop} (w : World) (q1 q2 : Value) (x : Nd) (key t t2 : K.T) (c : Int) (hk : key.length ≤ 140737488353000) (hr : Rep B w q1 q2 x) (hT : Tb w) (h1 : K.print x = .ok t) (h2 : K.print (K.under key x) = .ok t2) (h3 : ¬ 16384 < t.length + 9) (h4 : ¬ x.p.length < 256) :
    Calls Tryz.prog 9 #[.agg (nv x q1 q2), S key] w fun e w' => e = .returned (.bool true) ∧ Below w.heap.size w w' := by
  obtain ⟨ad1, cap1, rfl, _⟩ := hr.parts.2.1.form
  obtain ⟨ad2, cap2, rfl, hl2⟩ := hr.parts.2.2.form
  obtain ⟨W, hW⟩ : ∃ W, W = w.alloc (.cells (nv x (.slice ad1 x.l.length cap1) (.slice ad2 x.p.length cap2)) 32) := ⟨_, rfl⟩
  have hF : FW w x (.slice ad1 x.l.length cap1) (.slice ad2 x.p.length cap2) W := by rw [hW]; exact ⟨(Below.refl _ w).alloc (Nat.le_refl _) _, blk_new w _⟩
  obtain ⟨hri, hte, htl, hpt, hpx⟩ := K.print_ok h1
  have hP1 : ∀ V, FW w x (.slice ad1 x.l.length cap1) (.slice ad2 x.p.length cap2) V → Calls Tryz.prog 15 #[.agg (nv x (.slice ad1 x.l.length cap1) (.slice ad2 x.p.length cap2))] V fun e w' => Below V.heap.size V w' ∧ e = .returned (.tuple #[S t, .int .i64 0]) := fun V h => prints_ok h1 V _ _ (h.rep hr) (hT.under h.bel)
  have hk0 : x.k = 0 := by rw [← hpx]; rfl
  have hts := S_size t
  obtain ⟨tn, htn⟩ : ∃ n, t.length = n := ⟨_, rfl⟩
  rw [htn] at hts htl
  have hP2 : ∀ V, FW w x (.slice ad1 x.l.length cap1) (.slice ad2 x.p.length cap2) V → Calls Tryz.prog 15 #[.agg #[.int .u8 0, .string ⟨#[]⟩, .slice none 0 0, .slice (some ⟨V.heap.size, 0, none⟩) 1 1]] (V.alloc (.cells (kv key x (.slice ad1 x.l.length cap1) (.slice ad2 x.p.length cap2)) 44)) fun e w' => Below V.heap.size V w' ∧ e = .returned (.tuple #[S t2, .int .i64 0]) := fun V h =>
    (prints_ok h2 _ _ _ (rep_under V _ _ x key (h.rep hr) hk) ((hT.under h.bel).under ((Below.refl _ V).alloc (Nat.le_refl _) _))).mono fun e w' ⟨h1, h2⟩ => ⟨((Below.refl _ V).alloc (Nat.le_refl _) _).trans (h1.mono (by simp)), h2⟩
  obtain ⟨_, hte2, htl2, hpt2, hpx2⟩ := K.print_ok h2
  obtain ⟨y, hy⟩ : ∃ y, y = K.under key x := ⟨_, rfl⟩
  have hP3 : ∀ V, Below w.heap.size w V → Calls Tryz.prog 16 #[S t2] V (ParsR V y 0 0) := fun V h => by
    have := parses_ok hpt2 V (by omega) (hT.under h)
    rw [hpx2, ← hy] at this
    exact this
  have hP4 : ∀ V q1 q2, Rep Any V q1 q2 y → Calls Tryz.prog 19 #[.agg (nv y q1 q2), .slice (some ⟨V.heap.size, 0, none⟩) 1 1] (V.alloc (.cells #[S key] 9)) (AnsR V x true) := fun V q1 q2 h => by
    have := gets_one V q1 q2 y key hk h
    rw [hy, K.get_under] at this
    rw [hy]
    exact this
  have hP6 : ∀ V, FW w x (.slice ad1 x.l.length cap1) (.slice ad2 x.p.length cap2) V → Calls Tryz.prog 19 #[.agg (nv x (.slice ad1 x.l.length cap1) (.slice ad2 x.p.length cap2)), .slice (some ⟨V.heap.size, 0, none⟩) 1 1] (V.alloc (.cells #[.string ⟨#[122, 122]⟩] 9)) (AnsR V (K.ans (K.get x [K.zz])) (K.find x.p K.zz).isSome) := fun V h => by
    have := gets_one V _ _ x K.zz (by decide) (h.rep hr)
    rw [K.get_is hk0] at this
    skip
    exact this
  obtain ⟨z6, hz6⟩ : ∃ z, K.ans (K.get x [K.zz]) = z := ⟨_, rfl⟩
  rw [hz6] at hP6
  obtain ⟨b6, hb6⟩ : ∃ b, (K.find x.p K.zz).isSome = b := ⟨_, rfl⟩
  rw [hb6] at hP6
  obtain ⟨o, ho⟩ : ∃ o, K.parse (t ++ K.lit9) = .error o := K.more_many h1 h3 h4
  obtain ⟨ho1, ho2⟩ := K.parse_err ho
  have ho3 : (o.1 != 0) = true := by rw [bne_iff_ne]; exact ho1
  have hP5 : ∀ V, Below w.heap.size w V → Calls Tryz.prog 16 #[S (t ++ K.lit9)] V (ParsR V Nd.zero o.1 o.2) := fun V h => parses_err ho V (by simp only [List.length_append, List.length_cons, List.length_nil]; omega) (hT.under h)
  obtain ⟨o1, o2⟩ := o
  simp only at ho1 ho2 ho3 hP5
  clear ho hb6
  obtain ⟨pn, hpn⟩ : ∃ n, n = x.p.length := ⟨_, rfl⟩
  have hr0 := hr
  rw [← hpn] at hF hP1 hP2 hP6 hr hW ⊢
  have hg1 : ¬ 16384 < (tn : Int) + 9 := by omega
  have hg2 : (tn : Int) ≤ 100000 := by omega
  have hg3 : 256 ≤ (pn : Int) := by omega
  have HPN := Lib.hid hpn
  have HTN := Lib.hid htn
  have HP3 := Lib.hid hP3
  have HP4 := Lib.hid hP4
  have HP5 := Lib.hid hP5
  have HP6 := Lib.hid hP6
  clear hte2 htl2 hpt2 hpx2 hy hP3 hP4 hP5 hP6 hz6 hpn htn hr0 h3 h4
  clear hri hte htl hpt hpx hk0 h2
  have HR := Lib.hid hr
  have HW := Lib.hid hW
  have F1 := Lib.hid hF
  have HT := Lib.hid hT
  have HP1 := Lib.hid hP1
  have HP2 := Lib.hid hP2
  clear hr hW hF hT hP1 hP2 h1 hk
  go_enter Tryz.func9, Tryz.ntmps9
  go_upto_region 1 with (fail)
  rw [← HW.out]
  go_wp2_with fail
  refine (lives_any W (HT.out.under F1.out.bel)).mono ?_
  rintro e w2 ⟨rfl, hb2⟩
  have F2 := Lib.hid (F1.out.under hb2)
  obtain ⟨c0, c1, c2', c3⟩ := four F2.out.bx
  have hl0 := blk_lt F2.out.bx
  clear hb2
  go_wp2_with fail
  refine (HP1.out w2 F2.out).mono ?_
  rintro e w3 ⟨hb3, rfl⟩
  have F3 := Lib.hid (F2.out.under hb3)
  clear hb3 c0 c1 c2' c3 hl0
  obtain ⟨c0, c1, c2', c3⟩ := four F3.out.bx
  have hl0 := blk_lt F3.out.bx
  go_wp2_with fail
  refine (HP2.out w3 F3.out).mono ?_
  rintro e w4 ⟨hb4, rfl⟩
  have F4 := Lib.hid (F3.out.under hb4)
  clear hb4 c0 c1 c2' c3 hl0
  go_wp2_with fail
  refine (HP3.out w4 F4.out.bel).mono ?_
  rintro e w5 ⟨hb5, a5, e5, rfl, hr5⟩
  obtain ⟨X5, hX5⟩ : ∃ X, X = w5.alloc (.cells (nv y (.slice none y.l.length 0) (.slice a5 y.p.length e5)) 32) := ⟨_, rfl⟩
  obtain ⟨hbX, hbk⟩ := box_new w5 y _ _ hX5
  have F5 := Lib.hid ((F4.out.under hb5).under hbX)
  have HG := Lib.hid (HP4.out X5 _ _ (hr5.under hbX))
  have HX5 := Lib.hid hX5
  obtain ⟨d0, d1, d2, d3⟩ := four hbk
  have hl5 := blk_lt hbk
  clear hb5 hr5 hX5 hbX hbk
  go_upto_region 8 with (fail)
  rw [← HX5.out]
  go_wp2_with fail
  refine (HG.out).mono ?_
  rintro e w6 ⟨hb6, a6, e6, a7, e7, rfl, hr6, _⟩
  obtain ⟨X6, hX6⟩ : ∃ X, X = w6.alloc (.cells (nv x (.slice a6 x.l.length e6) (.slice a7 x.p.length e7)) 32) := ⟨_, rfl⟩
  obtain ⟨hbX, hbk⟩ := box_new w6 x _ _ hX6
  have F6 := Lib.hid ((F5.out.under hb6).under hbX)
  have HS := Lib.hid (same_yes x _ _ X6 _ _ _ _ (hr6.under hbX) (F6.out.rep HR.out))
  have HX6 := Lib.hid hX6
  rw [← HPN.out] at HS
  obtain ⟨f0, f1, f2, f3⟩ := four hbk
  rw [← HPN.out] at f3
  have hl6 := blk_lt hbk
  obtain ⟨c0, c1, c2', c3⟩ := four F6.out.bx
  have hl0 := blk_lt F6.out.bx
  clear hb6 hr6 hX6 hbX hbk d0 d1 d2 d3 hl5
  go_upto_region 9 with (fail)
  rw [← HX6.out]
  go_wp2_with fail
  refine (HS.out).mono ?_
  rintro e w7 ⟨rfl, hb7⟩
  have F7 := Lib.hid (F6.out.under hb7)
  clear hb7 f0 f1 f2 f3 c0 c1 c2' c3 hl0 hl6
  go_wp2_with fail
  rw [show Value.string ({ data := t.toArray } ++ { data := #[122, 122, 58, 32, 108, 97, 115, 116, 10] }) = S (t ++ K.lit9) from cat2 t K.lit9]
  refine (HP5.out w7 F7.out.bel).mono ?_
  rintro e w8 ⟨hb8, a8, e8, rfl, hr8⟩
  obtain ⟨X8, hX8⟩ : ∃ X, X = w8.alloc (.cells (nv Nd.zero (.slice none Nd.zero.l.length 0) (.slice a8 Nd.zero.p.length e8)) 32) := ⟨_, rfl⟩
  obtain ⟨hbX, hbk⟩ := box_new w8 Nd.zero _ _ hX8
  have F8 := Lib.hid ((F7.out.under hb8).under hbX)
  have HR8 := Lib.hid (hr8.under hbX)
  have HB8 := Lib.hid hbk
  have HX8 := Lib.hid hX8
  obtain ⟨c0, c1, c2', c3⟩ := four F8.out.bx
  have hl0 := blk_lt F8.out.bx
  clear hb8 hr8 hX8 hbX hbk
  go_upto_region 12 with (fail)
  rw [← HX8.out]
  obtain ⟨g8, hg8⟩ : ∃ g, g = w8.heap.size := ⟨_, rfl⟩
  have HG8 := Lib.hid hg8
  rw [← hg8] at HB8 ⊢
  clear hg8
  go_wp2_with fail
  refine (HP6.out X8 F8.out).mono ?_
  rintro e w9 ⟨hb9, a9, e9, a10, e10, rfl, hr9, _⟩
  obtain ⟨X9, hX9⟩ : ∃ X, X = w9.alloc (.cells (nv z6 (.slice a9 z6.l.length e9) (.slice a10 z6.p.length e10)) 32) := ⟨_, rfl⟩
  obtain ⟨hbX, hbk⟩ := box_new w9 z6 _ _ hX9
  have hbb := hb9.trans (hbX.mono hb9.size)
  have F9 := Lib.hid (F8.out.under hbb)
  have HR9 := Lib.hid (HR8.out.under hbb)
  have HB9 := Lib.hid (HB8.out.under hbb)
  have HX9 := Lib.hid hX9
  clear hb9 hr9 hX9 hbX hbk hbb c0 c1 c2' c3 hl0
  obtain ⟨c0, c1, c2', c3⟩ := four F9.out.bx
  have hl0 := blk_lt F9.out.bx
  go_upto_region 13 with (fail)
  rw [← HX9.out]
  go_wp2
  refine bodyPost_ret (v := .bool true) (by simp [results, Tryz.results9, go_sem]) rfl ?_
  exact ⟨rfl, F9.out.bel⟩
set_option maxHeartbeats 8000000 in
theorem lev_had {B : Nat → Prop} (w : World) (q1 q2 : Value) (x : Nd) (key t t2 : K.T) (c : Int) (hk : key.length ≤ 140737488353000) (hr : Rep B w q1 q2 x) (hT : Tb w) (h1 : K.print x = .ok t) (h2 : K.print (K.under key x) = .ok t2) (h3 : ¬ 16384 < t.length + 9) (h4 : x.p.length < 256) (h5 : (K.find x.p K.zz).isSome = true) :
    Calls Tryz.prog 9 #[.agg (nv x q1 q2), S key] w fun e w' => e = .returned (.bool true) ∧ Below w.heap.size w w' := by
  obtain ⟨ad1, cap1, rfl, _⟩ := hr.parts.2.1.form
  obtain ⟨ad2, cap2, rfl, hl2⟩ := hr.parts.2.2.form
  obtain ⟨W, hW⟩ : ∃ W, W = w.alloc (.cells (nv x (.slice ad1 x.l.length cap1) (.slice ad2 x.p.length cap2)) 32) := ⟨_, rfl⟩
  have hF : FW w x (.slice ad1 x.l.length cap1) (.slice ad2 x.p.length cap2) W := by rw [hW]; exact ⟨(Below.refl _ w).alloc (Nat.le_refl _) _, blk_new w _⟩
  obtain ⟨hri, hte, htl, hpt, hpx⟩ := K.print_ok h1
  have hP1 : ∀ V, FW w x (.slice ad1 x.l.length cap1) (.slice ad2 x.p.length cap2) V → Calls Tryz.prog 15 #[.agg (nv x (.slice ad1 x.l.length cap1) (.slice ad2 x.p.length cap2))] V fun e w' => Below V.heap.size V w' ∧ e = .returned (.tuple #[S t, .int .i64 0]) := fun V h => prints_ok h1 V _ _ (h.rep hr) (hT.under h.bel)
  have hk0 : x.k = 0 := by rw [← hpx]; rfl
  have hts := S_size t
  obtain ⟨tn, htn⟩ : ∃ n, t.length = n := ⟨_, rfl⟩
  rw [htn] at hts htl
  have hP2 : ∀ V, FW w x (.slice ad1 x.l.length cap1) (.slice ad2 x.p.length cap2) V → Calls Tryz.prog 15 #[.agg #[.int .u8 0, .string ⟨#[]⟩, .slice none 0 0, .slice (some ⟨V.heap.size, 0, none⟩) 1 1]] (V.alloc (.cells (kv key x (.slice ad1 x.l.length cap1) (.slice ad2 x.p.length cap2)) 44)) fun e w' => Below V.heap.size V w' ∧ e = .returned (.tuple #[S t2, .int .i64 0]) := fun V h =>
    (prints_ok h2 _ _ _ (rep_under V _ _ x key (h.rep hr) hk) ((hT.under h.bel).under ((Below.refl _ V).alloc (Nat.le_refl _) _))).mono fun e w' ⟨h1, h2⟩ => ⟨((Below.refl _ V).alloc (Nat.le_refl _) _).trans (h1.mono (by simp)), h2⟩
  obtain ⟨_, hte2, htl2, hpt2, hpx2⟩ := K.print_ok h2
  obtain ⟨y, hy⟩ : ∃ y, y = K.under key x := ⟨_, rfl⟩
  have hP3 : ∀ V, Below w.heap.size w V → Calls Tryz.prog 16 #[S t2] V (ParsR V y 0 0) := fun V h => by
    have := parses_ok hpt2 V (by omega) (hT.under h)
    rw [hpx2, ← hy] at this
    exact this
  have hP4 : ∀ V q1 q2, Rep Any V q1 q2 y → Calls Tryz.prog 19 #[.agg (nv y q1 q2), .slice (some ⟨V.heap.size, 0, none⟩) 1 1] (V.alloc (.cells #[S key] 9)) (AnsR V x true) := fun V q1 q2 h => by
    have := gets_one V q1 q2 y key hk h
    rw [hy, K.get_under] at this
    rw [hy]
    exact this
  have hP6 : ∀ V, FW w x (.slice ad1 x.l.length cap1) (.slice ad2 x.p.length cap2) V → Calls Tryz.prog 19 #[.agg (nv x (.slice ad1 x.l.length cap1) (.slice ad2 x.p.length cap2)), .slice (some ⟨V.heap.size, 0, none⟩) 1 1] (V.alloc (.cells #[.string ⟨#[122, 122]⟩] 9)) (AnsR V (K.ans (K.get x [K.zz])) true) := fun V h => by
    have := gets_one V _ _ x K.zz (by decide) (h.rep hr)
    rw [K.get_is hk0] at this
    rw [h5] at this
    exact this
  obtain ⟨z6, hz6⟩ : ∃ z, K.ans (K.get x [K.zz]) = z := ⟨_, rfl⟩
  rw [hz6] at hP6
  obtain ⟨k, ho⟩ := K.more_had h1 h3 h5
  obtain ⟨kz, hkz⟩ : ∃ kz : Int, kz = ((k + 1 : Nat) : Int) := ⟨_, rfl⟩
  have hkp : 0 < kz := by omega
  have hP5 : ∀ V, Below w.heap.size w V → Calls Tryz.prog 16 #[S (t ++ K.lit9)] V (ParsR V Nd.zero 15 kz) := fun V h => by
    rw [hkz]
    exact parses_err ho V (by simp only [List.length_append, List.length_cons, List.length_nil]; omega) (hT.under h)
  clear ho hkz
  obtain ⟨pn, hpn⟩ : ∃ n, n = x.p.length := ⟨_, rfl⟩
  have hr0 := hr
  rw [← hpn] at hF hP1 hP2 hP6 hr hW ⊢
  have hg1 : ¬ 16384 < (tn : Int) + 9 := by omega
  have hg2 : (tn : Int) ≤ 100000 := by omega
  have hg3 : ¬ 256 ≤ (pn : Int) := by omega
  have HPN := Lib.hid hpn
  have HTN := Lib.hid htn
  have HP3 := Lib.hid hP3
  have HP4 := Lib.hid hP4
  have HP5 := Lib.hid hP5
  have HP6 := Lib.hid hP6
  clear hte2 htl2 hpt2 hpx2 hy hP3 hP4 hP5 hP6 hz6 hpn htn hr0 h3 h4 h5
  clear hri hte htl hpt hpx hk0 h2
  have HR := Lib.hid hr
  have HW := Lib.hid hW
  have F1 := Lib.hid hF
  have HT := Lib.hid hT
  have HP1 := Lib.hid hP1
  have HP2 := Lib.hid hP2
  clear hr hW hF hT hP1 hP2 h1 hk
  go_enter Tryz.func9, Tryz.ntmps9
  go_upto_region 1 with (fail)
  rw [← HW.out]
  go_wp2_with fail
  refine (lives_any W (HT.out.under F1.out.bel)).mono ?_
  rintro e w2 ⟨rfl, hb2⟩
  have F2 := Lib.hid (F1.out.under hb2)
  obtain ⟨c0, c1, c2', c3⟩ := four F2.out.bx
  have hl0 := blk_lt F2.out.bx
  clear hb2
  go_wp2_with fail
  refine (HP1.out w2 F2.out).mono ?_
  rintro e w3 ⟨hb3, rfl⟩
  have F3 := Lib.hid (F2.out.under hb3)
  clear hb3 c0 c1 c2' c3 hl0
  obtain ⟨c0, c1, c2', c3⟩ := four F3.out.bx
  have hl0 := blk_lt F3.out.bx
  go_wp2_with fail
  refine (HP2.out w3 F3.out).mono ?_
  rintro e w4 ⟨hb4, rfl⟩
  have F4 := Lib.hid (F3.out.under hb4)
  clear hb4 c0 c1 c2' c3 hl0
  go_wp2_with fail
  refine (HP3.out w4 F4.out.bel).mono ?_
  rintro e w5 ⟨hb5, a5, e5, rfl, hr5⟩
  obtain ⟨X5, hX5⟩ : ∃ X, X = w5.alloc (.cells (nv y (.slice none y.l.length 0) (.slice a5 y.p.length e5)) 32) := ⟨_, rfl⟩
  obtain ⟨hbX, hbk⟩ := box_new w5 y _ _ hX5
  have F5 := Lib.hid ((F4.out.under hb5).under hbX)
  have HG := Lib.hid (HP4.out X5 _ _ (hr5.under hbX))
  have HX5 := Lib.hid hX5
  obtain ⟨d0, d1, d2, d3⟩ := four hbk
  have hl5 := blk_lt hbk
  clear hb5 hr5 hX5 hbX hbk
  go_upto_region 8 with (fail)
  rw [← HX5.out]
  go_wp2_with fail
  refine (HG.out).mono ?_
  rintro e w6 ⟨hb6, a6, e6, a7, e7, rfl, hr6, _⟩
  obtain ⟨X6, hX6⟩ : ∃ X, X = w6.alloc (.cells (nv x (.slice a6 x.l.length e6) (.slice a7 x.p.length e7)) 32) := ⟨_, rfl⟩
  obtain ⟨hbX, hbk⟩ := box_new w6 x _ _ hX6
  have F6 := Lib.hid ((F5.out.under hb6).under hbX)
  have HS := Lib.hid (same_yes x _ _ X6 _ _ _ _ (hr6.under hbX) (F6.out.rep HR.out))
  have HX6 := Lib.hid hX6
  rw [← HPN.out] at HS
  obtain ⟨f0, f1, f2, f3⟩ := four hbk
  rw [← HPN.out] at f3
  have hl6 := blk_lt hbk
  obtain ⟨c0, c1, c2', c3⟩ := four F6.out.bx
  have hl0 := blk_lt F6.out.bx
  clear hb6 hr6 hX6 hbX hbk d0 d1 d2 d3 hl5
  go_upto_region 9 with (fail)
  rw [← HX6.out]
  go_wp2_with fail
  refine (HS.out).mono ?_
  rintro e w7 ⟨rfl, hb7⟩
  have F7 := Lib.hid (F6.out.under hb7)
  clear hb7 f0 f1 f2 f3 c0 c1 c2' c3 hl0 hl6
  go_wp2_with fail
  rw [show Value.string ({ data := t.toArray } ++ { data := #[122, 122, 58, 32, 108, 97, 115, 116, 10] }) = S (t ++ K.lit9) from cat2 t K.lit9]
  refine (HP5.out w7 F7.out.bel).mono ?_
  rintro e w8 ⟨hb8, a8, e8, rfl, hr8⟩
  obtain ⟨X8, hX8⟩ : ∃ X, X = w8.alloc (.cells (nv Nd.zero (.slice none Nd.zero.l.length 0) (.slice a8 Nd.zero.p.length e8)) 32) := ⟨_, rfl⟩
  obtain ⟨hbX, hbk⟩ := box_new w8 Nd.zero _ _ hX8
  have F8 := Lib.hid ((F7.out.under hb8).under hbX)
  have HR8 := Lib.hid (hr8.under hbX)
  have HB8 := Lib.hid hbk
  have HX8 := Lib.hid hX8
  obtain ⟨c0, c1, c2', c3⟩ := four F8.out.bx
  have hl0 := blk_lt F8.out.bx
  clear hb8 hr8 hX8 hbX hbk
  go_upto_region 12 with (fail)
  rw [← HX8.out]
  obtain ⟨g8, hg8⟩ : ∃ g, g = w8.heap.size := ⟨_, rfl⟩
  have HG8 := Lib.hid hg8
  rw [← hg8] at HB8 ⊢
  clear hg8
  go_wp2_with fail
  refine (HP6.out X8 F8.out).mono ?_
  rintro e w9 ⟨hb9, a9, e9, a10, e10, rfl, hr9, _⟩
  obtain ⟨X9, hX9⟩ : ∃ X, X = w9.alloc (.cells (nv z6 (.slice a9 z6.l.length e9) (.slice a10 z6.p.length e10)) 32) := ⟨_, rfl⟩
  obtain ⟨hbX, hbk⟩ := box_new w9 z6 _ _ hX9
  have hbb := hb9.trans (hbX.mono hb9.size)
  have F9 := Lib.hid (F8.out.under hbb)
  have HR9 := Lib.hid (HR8.out.under hbb)
  have HB9 := Lib.hid (HB8.out.under hbb)
  have HX9 := Lib.hid hX9
  clear hb9 hr9 hX9 hbX hbk hbb c0 c1 c2' c3 hl0
  obtain ⟨c0, c1, c2', c3⟩ := four F9.out.bx
  have hl0 := blk_lt F9.out.bx
  go_upto_region 13 with (fail)
  rw [← HX9.out]
  go_wp2
  refine bodyPost_ret (v := .bool true) (by simp [results, Tryz.results9, go_sem]) rfl ?_
  exact ⟨rfl, F9.out.bel⟩
set_option maxHeartbeats 8000000 in
theorem lev_ok {B : Nat → Prop} (w : World) (q1 q2 : Value) (x : Nd) (key t t2 : K.T) (c : Int) (hk : key.length ≤ 140737488353000) (hr : Rep B w q1 q2 x) (hT : Tb w) (h1 : K.print x = .ok t) (h2 : K.print (K.under key x) = .ok t2) (h3 : ¬ 16384 < t.length + 9) (h4 : x.p.length < 256) (h5 : ¬ (K.find x.p K.zz).isSome = true) :
    Calls Tryz.prog 9 #[.agg (nv x q1 q2), S key] w fun e w' => e = .returned (.bool true) ∧ Below w.heap.size w w' := by
  obtain ⟨ad1, cap1, rfl, _⟩ := hr.parts.2.1.form
  obtain ⟨ad2, cap2, rfl, hl2⟩ := hr.parts.2.2.form
  obtain ⟨W, hW⟩ : ∃ W, W = w.alloc (.cells (nv x (.slice ad1 x.l.length cap1) (.slice ad2 x.p.length cap2)) 32) := ⟨_, rfl⟩
  have hF : FW w x (.slice ad1 x.l.length cap1) (.slice ad2 x.p.length cap2) W := by rw [hW]; exact ⟨(Below.refl _ w).alloc (Nat.le_refl _) _, blk_new w _⟩
  obtain ⟨hri, hte, htl, hpt, hpx⟩ := K.print_ok h1
  have hP1 : ∀ V, FW w x (.slice ad1 x.l.length cap1) (.slice ad2 x.p.length cap2) V → Calls Tryz.prog 15 #[.agg (nv x (.slice ad1 x.l.length cap1) (.slice ad2 x.p.length cap2))] V fun e w' => Below V.heap.size V w' ∧ e = .returned (.tuple #[S t, .int .i64 0]) := fun V h => prints_ok h1 V _ _ (h.rep hr) (hT.under h.bel)
  have hk0 : x.k = 0 := by rw [← hpx]; rfl
  have hts := S_size t
  obtain ⟨tn, htn⟩ : ∃ n, t.length = n := ⟨_, rfl⟩
  rw [htn] at hts htl
  have hP2 : ∀ V, FW w x (.slice ad1 x.l.length cap1) (.slice ad2 x.p.length cap2) V → Calls Tryz.prog 15 #[.agg #[.int .u8 0, .string ⟨#[]⟩, .slice none 0 0, .slice (some ⟨V.heap.size, 0, none⟩) 1 1]] (V.alloc (.cells (kv key x (.slice ad1 x.l.length cap1) (.slice ad2 x.p.length cap2)) 44)) fun e w' => Below V.heap.size V w' ∧ e = .returned (.tuple #[S t2, .int .i64 0]) := fun V h =>
    (prints_ok h2 _ _ _ (rep_under V _ _ x key (h.rep hr) hk) ((hT.under h.bel).under ((Below.refl _ V).alloc (Nat.le_refl _) _))).mono fun e w' ⟨h1, h2⟩ => ⟨((Below.refl _ V).alloc (Nat.le_refl _) _).trans (h1.mono (by simp)), h2⟩
  obtain ⟨_, hte2, htl2, hpt2, hpx2⟩ := K.print_ok h2
  obtain ⟨y, hy⟩ : ∃ y, y = K.under key x := ⟨_, rfl⟩
  have hP3 : ∀ V, Below w.heap.size w V → Calls Tryz.prog 16 #[S t2] V (ParsR V y 0 0) := fun V h => by
    have := parses_ok hpt2 V (by omega) (hT.under h)
    rw [hpx2, ← hy] at this
    exact this
  have hP4 : ∀ V q1 q2, Rep Any V q1 q2 y → Calls Tryz.prog 19 #[.agg (nv y q1 q2), .slice (some ⟨V.heap.size, 0, none⟩) 1 1] (V.alloc (.cells #[S key] 9)) (AnsR V x true) := fun V q1 q2 h => by
    have := gets_one V q1 q2 y key hk h
    rw [hy, K.get_under] at this
    rw [hy]
    exact this
  have hP6 : ∀ V, FW w x (.slice ad1 x.l.length cap1) (.slice ad2 x.p.length cap2) V → Calls Tryz.prog 19 #[.agg (nv x (.slice ad1 x.l.length cap1) (.slice ad2 x.p.length cap2)), .slice (some ⟨V.heap.size, 0, none⟩) 1 1] (V.alloc (.cells #[.string ⟨#[122, 122]⟩] 9)) (AnsR V (K.ans (K.get x [K.zz])) false) := fun V h => by
    have := gets_one V _ _ x K.zz (by decide) (h.rep hr)
    rw [K.get_is hk0] at this
    rw [Bool.eq_false_iff.2 h5] at this
    exact this
  obtain ⟨z6, hz6⟩ : ∃ z, K.ans (K.get x [K.zz]) = z := ⟨_, rfl⟩
  rw [hz6] at hP6
  obtain ⟨m, hm⟩ : ∃ m, m = Nd.mk 0 [] [] (x.p ++ [(K.zz, K.lastN)]) := ⟨_, rfl⟩
  have hml : m.p.length = x.p.length + 1 := by rw [hm]; show (x.p ++ [(K.zz, K.lastN)]).length = _; simp
  have hP5 : ∀ V, Below w.heap.size w V → Calls Tryz.prog 16 #[S (t ++ K.lit9)] V (ParsR V m 0 0) := fun V h => by
    rw [hm]
    exact parses_ok (K.more_ok h1 h3 h5 h4) V (by simp only [List.length_append, List.length_cons, List.length_nil]; omega) (hT.under h)
  have hP7 : ∀ V q1 q2, Rep Any V q1 q2 m → Calls Tryz.prog 19 #[.agg (nv m q1 q2), .slice (some ⟨V.heap.size, 0, none⟩) 1 1] (V.alloc (.cells #[.string ⟨#[122, 122]⟩] 9)) (AnsR V K.lastN true) := fun V q1 q2 h => by
    have := gets_one V q1 q2 m K.zz (by decide) h
    rw [hm, K.get_more K.zz K.lastN h5] at this
    rw [hm]
    exact this
  have HP7 := Lib.hid hP7
  clear hm hP7
  obtain ⟨pn, hpn⟩ : ∃ n, n = x.p.length := ⟨_, rfl⟩
  have hr0 := hr
  rw [← hpn] at hF hP1 hP2 hP6 hr hW hml ⊢
  have hg1 : ¬ 16384 < (tn : Int) + 9 := by omega
  have hg2 : (tn : Int) ≤ 100000 := by omega
  have hg3 : ¬ 256 ≤ (pn : Int) := by omega
  obtain ⟨mn, hmn⟩ : ∃ n, n = m.p.length := ⟨_, rfl⟩
  have hme : ((mn : Int) == (pn : Int) + 1) = true := by rw [hmn, hml]; simp
  have HMN := Lib.hid hmn
  clear hml hmn
  have HPN := Lib.hid hpn
  have HTN := Lib.hid htn
  have HP3 := Lib.hid hP3
  have HP4 := Lib.hid hP4
  have HP5 := Lib.hid hP5
  have HP6 := Lib.hid hP6
  clear hte2 htl2 hpt2 hpx2 hy hP3 hP4 hP5 hP6 hz6 hpn htn hr0 h3 h4 h5
  clear hri hte htl hpt hpx hk0 h2
  have HR := Lib.hid hr
  have HW := Lib.hid hW
  have F1 := Lib.hid hF
  have HT := Lib.hid hT
  have HP1 := Lib.hid hP1
  have HP2 := Lib.hid hP2
  clear hr hW hF hT hP1 hP2 h1 hk
  go_enter Tryz.func9, Tryz.ntmps9
  go_upto_region 1 with (fail)
  rw [← HW.out]
  go_wp2_with fail
  refine (lives_any W (HT.out.under F1.out.bel)).mono ?_
  rintro e w2 ⟨rfl, hb2⟩
  have F2 := Lib.hid (F1.out.under hb2)
  obtain ⟨c0, c1, c2', c3⟩ := four F2.out.bx
  have hl0 := blk_lt F2.out.bx
  clear hb2
  go_wp2_with fail
  refine (HP1.out w2 F2.out).mono ?_
  rintro e w3 ⟨hb3, rfl⟩
  have F3 := Lib.hid (F2.out.under hb3)
  clear hb3 c0 c1 c2' c3 hl0
  obtain ⟨c0, c1, c2', c3⟩ := four F3.out.bx
  have hl0 := blk_lt F3.out.bx
  go_wp2_with fail
  refine (HP2.out w3 F3.out).mono ?_
  rintro e w4 ⟨hb4, rfl⟩
  have F4 := Lib.hid (F3.out.under hb4)
  clear hb4 c0 c1 c2' c3 hl0
  go_wp2_with fail
  refine (HP3.out w4 F4.out.bel).mono ?_
  rintro e w5 ⟨hb5, a5, e5, rfl, hr5⟩
  obtain ⟨X5, hX5⟩ : ∃ X, X = w5.alloc (.cells (nv y (.slice none y.l.length 0) (.slice a5 y.p.length e5)) 32) := ⟨_, rfl⟩
  obtain ⟨hbX, hbk⟩ := box_new w5 y _ _ hX5
  have F5 := Lib.hid ((F4.out.under hb5).under hbX)
  have HG := Lib.hid (HP4.out X5 _ _ (hr5.under hbX))
  have HX5 := Lib.hid hX5
  obtain ⟨d0, d1, d2, d3⟩ := four hbk
  have hl5 := blk_lt hbk
  clear hb5 hr5 hX5 hbX hbk
  go_upto_region 8 with (fail)
  rw [← HX5.out]
  go_wp2_with fail
  refine (HG.out).mono ?_
  rintro e w6 ⟨hb6, a6, e6, a7, e7, rfl, hr6, _⟩
  obtain ⟨X6, hX6⟩ : ∃ X, X = w6.alloc (.cells (nv x (.slice a6 x.l.length e6) (.slice a7 x.p.length e7)) 32) := ⟨_, rfl⟩
  obtain ⟨hbX, hbk⟩ := box_new w6 x _ _ hX6
  have F6 := Lib.hid ((F5.out.under hb6).under hbX)
  have HS := Lib.hid (same_yes x _ _ X6 _ _ _ _ (hr6.under hbX) (F6.out.rep HR.out))
  have HX6 := Lib.hid hX6
  rw [← HPN.out] at HS
  obtain ⟨f0, f1, f2, f3⟩ := four hbk
  rw [← HPN.out] at f3
  have hl6 := blk_lt hbk
  obtain ⟨c0, c1, c2', c3⟩ := four F6.out.bx
  have hl0 := blk_lt F6.out.bx
  clear hb6 hr6 hX6 hbX hbk d0 d1 d2 d3 hl5
  go_upto_region 9 with (fail)
  rw [← HX6.out]
  go_wp2_with fail
  refine (HS.out).mono ?_
  rintro e w7 ⟨rfl, hb7⟩
  have F7 := Lib.hid (F6.out.under hb7)
  clear hb7 f0 f1 f2 f3 c0 c1 c2' c3 hl0 hl6
  go_wp2_with fail
  rw [show Value.string ({ data := t.toArray } ++ { data := #[122, 122, 58, 32, 108, 97, 115, 116, 10] }) = S (t ++ K.lit9) from cat2 t K.lit9]
  refine (HP5.out w7 F7.out.bel).mono ?_
  rintro e w8 ⟨hb8, a8, e8, rfl, hr8⟩
  obtain ⟨X8, hX8⟩ : ∃ X, X = w8.alloc (.cells (nv m (.slice none m.l.length 0) (.slice a8 m.p.length e8)) 32) := ⟨_, rfl⟩
  obtain ⟨hbX, hbk⟩ := box_new w8 m _ _ hX8
  have F8 := Lib.hid ((F7.out.under hb8).under hbX)
  have HR8 := Lib.hid (hr8.under hbX)
  have HB8 := Lib.hid hbk
  have HX8 := Lib.hid hX8
  obtain ⟨c0, c1, c2', c3⟩ := four F8.out.bx
  have hl0 := blk_lt F8.out.bx
  clear hb8 hr8 hX8 hbX hbk
  go_upto_region 12 with (fail)
  rw [← HX8.out]
  obtain ⟨g8, hg8⟩ : ∃ g, g = w8.heap.size := ⟨_, rfl⟩
  have HG8 := Lib.hid hg8
  rw [← hg8] at HB8 ⊢
  clear hg8
  go_wp2_with fail
  refine (HP6.out X8 F8.out).mono ?_
  rintro e w9 ⟨hb9, a9, e9, a10, e10, rfl, hr9, _⟩
  obtain ⟨X9, hX9⟩ : ∃ X, X = w9.alloc (.cells (nv z6 (.slice a9 z6.l.length e9) (.slice a10 z6.p.length e10)) 32) := ⟨_, rfl⟩
  obtain ⟨hbX, hbk⟩ := box_new w9 z6 _ _ hX9
  have hbb := hb9.trans (hbX.mono hb9.size)
  have F9 := Lib.hid (F8.out.under hbb)
  have HR9 := Lib.hid (HR8.out.under hbb)
  have HB9 := Lib.hid (HB8.out.under hbb)
  have HX9 := Lib.hid hX9
  clear hb9 hr9 hX9 hbX hbk hbb c0 c1 c2' c3 hl0
  obtain ⟨c0, c1, c2', c3⟩ := four F9.out.bx
  have hl0 := blk_lt F9.out.bx
  go_upto_region 13 with (fail)
  rw [← HX9.out]
  obtain ⟨d0, d1, d2, d3⟩ := four HB9.out
  have hl8 := blk_lt HB9.out
  have HG9 := Lib.hid (HP7.out X9 _ _ HR9.out)
  go_wp2_with fail
  refine (HG9.out).mono ?_
  rintro e w10 ⟨hb10, a11, e11, a12, e12, rfl, hr10, _⟩
  obtain ⟨X10, hX10⟩ : ∃ X, X = w10.alloc (.cells (nv K.lastN (.slice a11 K.lastN.l.length e11) (.slice a12 K.lastN.p.length e12)) 32) := ⟨_, rfl⟩
  obtain ⟨hbX, hbk⟩ := box_new w10 K.lastN _ _ hX10
  have hbb := hb10.trans (hbX.mono hb10.size)
  have F10 := Lib.hid (F9.out.under hbb)
  have HB10 := Lib.hid (HB9.out.under hbb)
  have HX10 := Lib.hid hX10
  obtain ⟨f0, f1, f2, f3⟩ := four hbk
  have hl10 := blk_lt hbk
  clear hb10 hr10 hX10 hbX hbk hbb c0 c1 c2' c3 hl0 d0 d1 d2 d3 hl8
  obtain ⟨c0, c1, c2', c3⟩ := four F10.out.bx
  have hl0 := blk_lt F10.out.bx
  obtain ⟨d0, d1, d2, d3⟩ := four HB10.out
  have hl8 := blk_lt HB10.out
  rw [← HMN.out] at d3
  have f1' : X10.cell? ⟨w10.heap.size, 1, none⟩ = some (.string ⟨#[108, 97, 115, 116]⟩) := f1
  clear f1
  go_upto_region 18 with (fail)
  rw [← HX10.out]
  go_wp2
  refine bodyPost_ret (v := .bool true) (by simp [results, Tryz.results9, go_sem]) rfl ?_
  exact ⟨rfl, F10.out.bel⟩
theorem levels_any {B : Nat → Prop} (w : World) (q1 q2 : Value) (x : Nd) (key : K.T) (hk : key.length ≤ 140737488353000) (hr : Rep B w q1 q2 x) (hT : Tb w) :
    Calls Tryz.prog 9 #[.agg (nv x q1 q2), S key] w fun e w' => e = .returned (.bool true) ∧ Below w.heap.size w w' := by
  cases h1 : K.print x with
  | error c => exact lev_p1 w q1 q2 x key [] [] c hk hr hT h1
  | ok t =>
    cases h2 : K.print (K.under key x) with
    | error c => exact lev_p2 w q1 q2 x key t [] c hk hr hT h1 h2
    | ok t2 =>
      by_cases h3 : 16384 < t.length + 9
      · exact lev_long w q1 q2 x key t t2 0 hk hr hT h1 h2 h3
      · by_cases h4 : x.p.length < 256
        · by_cases h5 : (K.find x.p K.zz).isSome = true
          · exact lev_had w q1 q2 x key t t2 0 hk hr hT h1 h2 h3 h4 h5
          · exact lev_ok w q1 q2 x key t t2 0 hk hr hT h1 h2 h3 h4 h5
        · exact lev_many w q1 q2 x key t t2 0 hk hr hT h1 h2 h3 h4
theorem levels_str {B : Nat → Prop} (w : World) (q1 q2 : Value) (x : Nd) (s : ByteArray) (hs : s.size ≤ 140737488353000) (hr : Rep B w q1 q2 x) (hT : Tb w) :
    Calls Tryz.prog 9 #[.agg (nv x q1 q2), .string s] w fun e w' => e = .returned (.bool true) ∧ Below w.heap.size w w' := by
  obtain ⟨h1, h2⟩ := text_of s
  rw [h1]
  exact levels_any w q1 q2 x s.toList (by omega) hr hT
end Go.Proofs.YtegobomfhdfodaaGreatDoor
