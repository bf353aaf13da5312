/- CONF: Get as one answer; what the keys of a right map lead to. -/
import Derived.Test.YtegobomfhdfodaaGreatDoorDv
import Derived.Test.YtegobomfhdfodaaGreatDoorDw
import Derived.Test.YtegobomfhdfodaaGreatDoorDs
import Derived.Test.YtegobomfhdfodaaGreatDoorDh
namespace Go.Proofs.YtegobomfhdfodaaGreatDoor
open Go.RowKit
set_option maxRecDepth 100000
set_option linter.unusedVariables false
set_option linter.unusedSimpArgs false

namespace K
theorem get_nil (x : Nd) : get x [] = some x := by rw [get]
theorem get_app (x : Nd) (a b : List T) : get x (a ++ b) = match get x a with | some y => get y b | none => none := by
  induction a generalizing x with
  | nil => rw [get_nil, List.nil_append]
  | cons k r ih =>
    rw [List.cons_append, get, get]
    split
    · split
      · split
        · exact ih _
        · rfl
      · rfl
    · rfl
theorem keysF_find (ok : Nd → Bool) : ∀ (l seen : List (T × Nd)), keysF ok seen l = true → ∀ (i : Nat) (y : T × Nd), l[i]? = some y → find (seen ++ l) y.1 = some (seen.length + i)
  | [], _, _, i, y, hy => by simp at hy
  | z :: r, seen, h, i, y, hy => by
    rw [keysF] at h
    simp only [Bool.and_eq_true, Option.isNone_iff_eq_none] at h
    cases i with
    | zero =>
      simp only [List.getElem?_cons_zero, Option.some.injEq] at hy
      subst hy
      have hn := h.1.1.2
      unfold find at hn ⊢
      rw [List.findIdx?_append, hn, List.findIdx?_cons]
      simp
    | succ j =>
      have := keysF_find ok r (seen ++ [z]) h.2 j y (by simpa using hy)
      rw [List.append_assoc] at this
      simpa [Nat.add_assoc, Nat.add_comm 1 j] using this
theorem right_get {x : Nd} (h : right x = true) {i : Nat} {y : T × Nd} (hy : x.p[i]? = some y) : get x [y.1] = some y.2 := by
  unfold right at h
  simp only [Bool.and_eq_true, decide_eq_true_eq] at h
  have hn := h.2
  rw [nodeF_eq, if_pos h.1] at hn
  simp only [Bool.and_eq_true] at hn
  have hf := keysF_find _ _ _ hn.2.2 i y hy
  simp only [List.nil_append, List.length_nil, Nat.zero_add] at hf
  rw [get, if_pos h.1, hf]
  simp only [hy]
  exact get_nil _
/-- what Get answers, as one -/
def ans (o : Option Nd) : Nd := match o with
  | some y => y
  | none => Nd.zero
def is (o : Option Nd) : Bool := match o with
  | some _ => true
  | none => false
theorem get_step (x : Nd) (path : List T) (p : T) : (is (get x path) = true → get x (path ++ [p]) = get (ans (get x path)) [p]) ∧ (is (get x path) = false → get x (path ++ [p]) = none ∧ get x path = none) := by
  rw [get_app]
  cases get x path with
  | none => exact ⟨fun h => (by cases h), fun _ => ⟨rfl, rfl⟩⟩
  | some y => exact ⟨fun _ => rfl, fun h => (by cases h)⟩
end K
/-- what Get answers, from w on: a node, and whether it is there -/
def AnsR (w : World) (z : Nd) (b : Bool) (e : Ending) (w' : World) : Prop :=
  Below w.heap.size w w' ∧ ∃ a1 c1 a2 c2, e = .returned (.tuple #[.agg (nv z (.slice a1 z.l.length c1) (.slice a2 z.p.length c2)), .bool b]) ∧ Rep (fun g => w.heap.size ≤ g) w' (.slice a1 z.l.length c1) (.slice a2 z.p.length c2) z ∧ FreeS w.heap.size w' (.slice a1 z.l.length c1) ∧ FreeS w.heap.size w' (.slice a2 z.p.length c2)
theorem gets_any {B B' : Nat → Prop} (w : World) (q1 q2 qp : Value) (x : Nd) (path : List K.T) (hr : Rep B w q1 q2 x) (hp : RepT B' w qp path) :
    Calls Tryz.prog 19 #[.agg (nv x q1 q2), qp] w (AnsR w (K.ans (K.get x path)) (K.is (K.get x path))) := by
  refine (get_any w q1 q2 qp x path hr hp (fun y _ => clone_any y)).mono fun e w' h => ?_
  obtain ⟨hb, h⟩ := h
  cases hg : K.get x path with
  | none =>
    rw [hg] at h
    exact ⟨hb, none, 0, none, 0, h, Rep.zero _ _, FreeS.nil _ _ _ _, FreeS.nil _ _ _ _⟩
  | some y =>
    rw [hg] at h
    obtain ⟨r1, r2, he, hrep, hf⟩ := h
    obtain ⟨ad1, cap1, rfl, _⟩ := hrep.parts.2.1.form
    obtain ⟨ad2, cap2, rfl, _⟩ := hrep.parts.2.2.form
    exact ⟨hb, ad1, cap1, ad2, cap2, he, hrep, hf⟩
/-- Get with one key, in a new block -/
theorem gets_one {B : Nat → Prop} (w : World) (q1 q2 : Value) (x : Nd) (key : K.T) (hl : key.length ≤ 140737488353000) (hr : Rep B w q1 q2 x) :
    Calls Tryz.prog 19 #[.agg (nv x q1 q2), .slice (some ⟨w.heap.size, 0, none⟩) 1 1] (w.alloc (.cells #[S key] 9)) (AnsR w (K.ans (K.get x [key])) (K.is (K.get x [key]))) := by
  have hB : Below w.heap.size w (w.alloc (.cells #[S key] 9)) := (Below.refl _ w).alloc (Nat.le_refl _) _
  have hbk := blk_new w (.cells #[S key] 9)
  have hp : RepT Any (w.alloc (.cells #[S key] 9)) (.slice (some ⟨w.heap.size, 0, none⟩) 1 1) [key] := by
    refine ⟨w.heap.size, 0, ⟨_, 1, rfl, by simp, fun _ => ⟨rfl, trivial, blk_lt hbk⟩⟩, fun i s hi => ?_⟩
    match i, hi with
    | 0, hi => cases hi; exact ⟨cell_of_row _ _ 0 _ 9 (0, 0) hbk, hl⟩
  refine (gets_any _ q1 q2 _ x [key] (hr.under hB) hp).mono fun e w' ⟨hb, a1, c1, a2, c2, he, hrep, hf⟩ => ?_
  exact ⟨hB.trans (hb.mono hB.size), a1, c1, a2, c2, he, hrep.mono (fun g h _ => Nat.le_trans hB.size h), hf.1.keep hB.size (fun _ _ _ => rfl), hf.2.keep hB.size (fun _ _ _ => rfl)⟩
/-- a node in a box of its own -/
def Box4 (w : World) (g : Nat) (z : Nd) (r1 r2 : Value) : Prop := w.heap[g]? = some (.cells (nv z r1 r2) 32 (0, 0))
theorem Box4.under {w w' : World} {g : Nat} {z : Nd} {r1 r2 : Value} (h : Box4 w g z r1 r2) (hb : Below w.heap.size w w') : Box4 w' g z r1 r2 := blk_under (w := w) h hb
end Go.Proofs.YtegobomfhdfodaaGreatDoor

/- CONF: THE WALK OVER ConfFound. -/
namespace Go.Proofs.YtegobomfhdfodaaGreatDoor
open Go.RowKit
set_option maxRecDepth 100000
set_option linter.unusedVariables false
set_option linter.unusedSimpArgs false

/-- what the law carries: all that was, and its node's box -/
structure FW (w : World) (x : Nd) (q1 q2 : Value) (V : World) : Prop where
  bel : Below w.heap.size w V
  bx : Box4 V w.heap.size x q1 q2
theorem FW.under {w V V' : World} {x : Nd} {q1 q2 : Value} (h : FW w x q1 q2 V) (hb : Below V.heap.size V V') : FW w x q1 q2 V' := ⟨h.bel.trans (hb.mono h.bel.size), h.bx.under hb⟩
theorem FW.rep {B : Nat → Prop} {w V : World} {x z : Nd} {q1 q2 z1 z2 : Value} (h : FW w x q1 q2 V) (hr : Rep B w z1 z2 z) : Rep (fun g => g < w.heap.size) V z1 z2 z :=
  (hr.mono (B' := fun g => g < w.heap.size) fun _ _ h => h).keep (Kept.low h.bel) fun _ h _ => h
theorem FW.texts {B : Nat → Prop} {w V : World} {x : Nd} {q1 q2 z1 : Value} {l : List K.T} (h : FW w x q1 q2 V) (hr : RepT B w z1 l) : RepT (fun g => g < w.heap.size) V z1 l :=
  (hr.mono (B' := fun g => g < w.heap.size) fun _ _ h => h).keep (Kept.low h.bel) fun _ h _ => h
theorem FW.keysAt {B : Nat → Prop} {w V : World} {x : Nd} {q1 q2 z1 : Value} {l : List (K.T × Nd)} (h : FW w x q1 q2 V) (hr : RepK B w z1 l) : RepK (fun g => g < w.heap.size) V z1 l :=
  (hr.mono (B' := fun g => g < w.heap.size) fun _ _ h => h).keep (Kept.low h.bel) fun _ h _ => h
set_option maxHeartbeats 8000000 in
theorem found_any {B B' : Nat → Prop} (w : World) (q1 q2 qp : Value) (x : Nd) (path : List K.T) (hr : Rep B w q1 q2 x) (hp : RepT B' w qp path) (hT : Tb w) :
    Calls Tryz.prog 6 #[.agg (nv x q1 q2), qp] w fun e w' => e = .returned (.bool true) ∧ Below w.heap.size w w' := by
  obtain ⟨adp, capp, rfl, hlp⟩ := hp.form
  obtain ⟨ad1, cap1, rfl, _⟩ := hr.parts.2.1.form
  obtain ⟨ad2, cap2, rfl, hl2⟩ := hr.parts.2.2.form
  have hroom := hr.parts.2.2.room
  obtain ⟨n, hn⟩ : ∃ n, n = path.length := ⟨_, rfl⟩
  obtain ⟨m, hm⟩ : ∃ m, m = x.p.length := ⟨_, rfl⟩
  rw [← hn] at hp hlp ⊢
  rw [← hm] at hr hl2 hroom ⊢
  have hrk := hr.parts.2.2
  obtain ⟨W, hW⟩ : ∃ W, W = w.alloc (.cells (nv x (.slice ad1 x.l.length cap1) (.slice ad2 m cap2)) 32) := ⟨_, rfl⟩
  have hF : FW w x (.slice ad1 x.l.length cap1) (.slice ad2 m cap2) W := by rw [hW]; exact ⟨(Below.refl _ w).alloc (Nat.le_refl _) _, blk_new w _⟩
  have hTW : Tb W := hT.under hF.bel
  have hck := fun V (h : FW w x (.slice ad1 x.l.length cap1) (.slice ad2 m cap2) V) => ccheck_any V _ _ x (h.rep hr)
  have hg0 : ∀ V, FW w x (.slice ad1 x.l.length cap1) (.slice ad2 m cap2) V → Calls Tryz.prog 19 #[.agg (nv x (.slice ad1 x.l.length cap1) (.slice ad2 m cap2)), .slice none 0 0] V (AnsR V x true) := fun V h => by
    have := gets_any V _ _ _ x [] (h.rep hr) (RepT.nil Any V)
    rw [K.get_nil] at this
    exact this
  have hR : K.right x = true → ∀ (i : Nat) (y : K.T × Nd), x.p[i]? = some y → K.get x [y.1] = some y.2 := fun h i y hy => K.right_get h hy
  have HR := Lib.hid hr
  have HK := Lib.hid hrk
  have HP := Lib.hid hp
  have HN := Lib.hid hn
  have HM := Lib.hid hm
  have HW := Lib.hid hW
  have F1 := Lib.hid hF
  have HTW := Lib.hid hTW
  have HCK := Lib.hid hck
  have HG0 := Lib.hid hg0
  have HRG := Lib.hid hR
  clear hr hrk hp hn hm hW hF hTW hT hck hg0 hR
  go_enter Tryz.func6, Tryz.ntmps6
  go_upto_region 1 with (fail)
  rw [← HW.out]
  go_wp2_with fail
  refine (lives_any W HTW.out).mono ?_
  rintro e w2 ⟨rfl, hb2⟩
  have F2 := Lib.hid (F1.out.under hb2)
  obtain ⟨c0, c1, c2, c3⟩ := four F2.out.bx
  have hl0 := blk_lt F2.out.bx
  clear hb2
  go_wp2_with fail
  refine (HG0.out w2 F2.out).mono ?_
  rintro e w3 ⟨hb3, a1, e1, a2, e2, rfl, hr3, _⟩
  obtain ⟨X3, hX3⟩ : ∃ X, X = w3.alloc (.cells (nv x (.slice a1 x.l.length e1) (.slice a2 x.p.length e2)) 32) := ⟨_, rfl⟩
  have hbX : Below w3.heap.size w3 X3 := by rw [hX3]; exact (Below.refl _ w3).alloc (Nat.le_refl _) _
  have hbk : Box4 X3 w3.heap.size x (.slice a1 x.l.length e1) (.slice a2 x.p.length e2) := by rw [hX3]; exact blk_new w3 _
  have F3 := Lib.hid ((F2.out.under hb3).under hbX)
  have HR3 := Lib.hid (hr3.under hbX)
  have HX3 := Lib.hid hX3
  obtain ⟨d0, d1, d2, d3⟩ := four hbk
  have hl3 := blk_lt hbk
  obtain ⟨u0, u1, u2, u3⟩ := four F3.out.bx
  have hlu := blk_lt F3.out.bx
  clear hb3 hr3 hX3 hbX hbk c0 c1 c2 c3 hl0
  go_upto_region 4 with (fail)
  rw [← HX3.out]
  have hs := same_yes x _ _ X3 _ _ _ _ HR3.out (F3.out.rep HR.out)
  rw [← HM.out] at hs
  rw [← HM.out] at d3
  have HS := Lib.hid hs
  clear hs
  go_wp2_with fail
  refine (HS.out).mono ?_
  rintro e w4 ⟨rfl, hb4⟩
  have F4 := Lib.hid (F3.out.under hb4)
  obtain ⟨c0, c1, c2, c3⟩ := four F4.out.bx
  have hl0 := blk_lt F4.out.bx
  clear hb4 d0 d1 d2 d3 u0 u1 u2 u3 hl3 hlu
  by_cases hright : K.right x = true
  · have hc := HCK.out w4 F4.out
    rw [if_pos hright] at hc
    have HC := Lib.hid hc
    have HRT := Lib.hid (HRG.out hright)
    clear hc hright
    go_wp2_with fail
    refine (HC.out).mono ?_
    rintro e w5 ⟨rfl, hb5⟩
    have F5 := Lib.hid (F4.out.under hb5)
    obtain ⟨d0, d1, d2, d3⟩ := four F5.out.bx
    have hl5 := blk_lt F5.out.bx
    clear hb5 c0 c1 c2 c3
    go_wp2
    go_loopw [37] (fun i wr => ∃ k : Nat, i = .int .i64 (k : Int) ∧ k ≤ m ∧ FW w x (.slice ad1 x.l.length cap1) (.slice ad2 m cap2) wr) (fun i _ => m - (intOf i).toNat)
    case atStart => exact ⟨0, rfl, Nat.zero_le _, F5.out⟩
    case round =>
      obtain ⟨k, rfl, hk, hFk⟩ := hrel
      have Fk := Lib.hid hFk
      clear hFk
      obtain ⟨c0, c1, c2, c3⟩ := four Fk.out.bx
      have hl0 := blk_lt Fk.out.bx
      clear d0 d1 d2 d3 hl5
      by_cases hlt : k < m
      · obtain ⟨y, hy⟩ := get_at (l := x.p) (k := k) (by rw [← HM.out]; exact hlt)
        obtain ⟨g, o, p1, p2, rfl, hg, ⟨f0, f1, f2, f3, f4⟩, hyl, hry⟩ := (Fk.out.keysAt HK.out).at hy
        obtain ⟨z1, z2, rfl, _⟩ := hry.parts.2.1.form
        obtain ⟨z3, z4, rfl, _⟩ := hry.parts.2.2.form
        have hget := HRT.out k y hy
        obtain ⟨X, hX⟩ : ∃ X, X = wr.alloc (.cells (kv y.1 y.2 (.slice z1 y.2.l.length z2) (.slice z3 y.2.p.length z4)) 44) := ⟨_, rfl⟩
        have hbX : Below wr.heap.size wr X := by rw [hX]; exact (Below.refl _ wr).alloc (Nat.le_refl _) _
        have hbk : X.heap[wr.heap.size]? = some (.cells (kv y.1 y.2 (.slice z1 y.2.l.length z2) (.slice z3 y.2.p.length z4)) 44 (0, 0)) := by rw [hX]; exact blk_new wr _
        have FX := Lib.hid (Fk.out.under hbX)
        have hgo := gets_one X _ _ x y.1 hyl (FX.out.rep HR.out)
        rw [hget] at hgo
        have HGO := Lib.hid (show Calls Tryz.prog 19 _ _ (AnsR X y.2 true) from hgo)
        have HRY := Lib.hid (hry.under hbX)
        have HBK := Lib.hid hbk
        have HX := Lib.hid hX
        have hk0 : (0 : Int) ≤ (k : Int) := by omega
        have hkn : (k : Int) < (m : Int) := by omega
        have hkc : (k : Int) ≤ (cap2 : Int) := by omega
        obtain ⟨v0, v1, v2, v3, v4⟩ := At5.box hbk
        simp only [Nat.zero_add] at v0 v1 v2 v3 v4
        have hlX := blk_lt hbk
        obtain ⟨s0, s1, s2, s3⟩ := four FX.out.bx
        have hsX := blk_lt FX.out.bx
        clear hy hry hget hX hbX hgo hbk hyl
        go_upto_region 11 with (fail)
        rw [← HX.out]
        clear f0 f1 f2 f3 f4 c0 c1 c2 c3
        go_wp2_with fail
        refine (HGO.out).mono ?_
        rintro e w6 ⟨hb6, b1, b2, b3, b4, rfl, hr6, _⟩
        obtain ⟨Y, hY⟩ : ∃ X, X = w6.alloc (.cells (nv y.2 (.slice b1 y.2.l.length b2) (.slice b3 y.2.p.length b4)) 32) := ⟨_, rfl⟩
        have hbY : Below w6.heap.size w6 Y := by rw [hY]; exact (Below.refl _ w6).alloc (Nat.le_refl _) _
        have hbX : Below X.heap.size X Y := hb6.trans (hbY.mono hb6.size)
        have hbk : Box4 Y w6.heap.size y.2 (.slice b1 y.2.l.length b2) (.slice b3 y.2.p.length b4) := by rw [hY]; exact blk_new w6 _
        have hs := same_yes y.2 _ _ Y _ _ _ _ (hr6.under hbY) (HRY.out.under hbX)
        have HS := Lib.hid hs
        have FY := Lib.hid (FX.out.under hbX)
        have HY := Lib.hid hY
        have hbK := blk_under HBK.out hbX
        obtain ⟨t0, t1, t2, t3, t4⟩ := At5.box hbK
        simp only [Nat.zero_add] at t0 t1 t2 t3 t4
        have hlK := blk_lt hbK
        obtain ⟨r0, r1, r2, r3⟩ := four hbk
        have hlY := blk_lt hbk
        clear hb6 hr6 hY hbY hbX hbk hs hbK v0 v1 v2 v3 v4 s0 s1 s2 s3
        go_upto_region 12 with (fail)
        rw [← HY.out]
        go_wp2_with fail
        refine (HS.out).mono ?_
        rintro e w7 ⟨rfl, hb7⟩
        have F7 := Lib.hid (FY.out.under hb7)
        clear hb7 t0 t1 t2 t3 t4 r0 r1 r2 r3
        go_wp2
        go_roundw
        case rel => exact ⟨k + 1, by go_num, by omega, F7.out⟩
        case measure => simp [intOf]; omega
      · have hkn : ¬ (k : Int) < (m : Int) := by omega
        obtain ⟨X, hX⟩ : ∃ X, X = wr.alloc (.cells (nv x (.slice ad1 x.l.length cap1) (.slice ad2 m cap2)) 32) := ⟨_, rfl⟩
        have hbX : Below wr.heap.size wr X := by rw [hX]; exact (Below.refl _ wr).alloc (Nat.le_refl _) _
        have hbk : Box4 X wr.heap.size x (.slice ad1 x.l.length cap1) (.slice ad2 x.p.length cap2) := by rw [hX, ← HM.out]; exact blk_new wr _
        obtain ⟨g, hg⟩ : ∃ g, g = wr.heap.size := ⟨_, rfl⟩
        have hgw : w.heap.size < g := by rw [hg]; exact hl0
        rw [← hg] at hbk
        have HGE := Lib.hid hg
        have FX := Lib.hid (Fk.out.under hbX)
        have HX := Lib.hid hX
        have HBK := Lib.hid hbk
        have hrX := (FX.out.rep HR.out).mono (B' := fun j => j ≠ g) fun j h _ => by omega
        rw [HM.out] at hrX
        have HRX := Lib.hid hrX
        clear hg hbX hbk hX hrX
        obtain ⟨wo, hwo⟩ : ∃ wo, wo = wr := ⟨_, rfl⟩
        go_upto_region 16 with (fail)
        rw [← HX.out, ← HGE.out]
        clear hwo
        go_wp2
        go_loopw [12, 62] (fun b i wr => ∃ (k : Nat) (z : Nd) (a1 a2 : Option Addr) (e1 e2 : Nat), i = .int .i64 (k : Int) ∧ k ≤ n ∧ b = .bool (K.is (K.get x (path.take k))) ∧ FW w x (.slice ad1 x.l.length cap1) (.slice ad2 m cap2) wr ∧ Box4 wr g z (.slice a1 z.l.length e1) (.slice a2 z.p.length e2) ∧ Go.RowKit.Hid (z = K.ans (K.get x (path.take k))) ∧ Rep (fun j => j ≠ g) wr (.slice a1 z.l.length e1) (.slice a2 z.p.length e2) z) (fun _ i _ => n - (intOf i).toNat)
        case atStart => exact ⟨0, x, ad1, ad2, cap1, cap2, rfl, Nat.zero_le _, by rw [List.take_zero, K.get_nil]; rfl, FX.out, HBK.out, Lib.hid (by rw [List.take_zero, K.get_nil]; rfl), HRX.out⟩
        case round =>
          obtain ⟨j, z, a1, a2, e1, e2, rfl, hj, rfl, hF, hbz, hz, hrz⟩ := hrel
          have HZ := Lib.hid hz.out
          have FJ := Lib.hid hF
          have HBZ := Lib.hid hbz
          have HRZ := Lib.hid hrz
          obtain ⟨r0, r1, r2, r3⟩ := four hbz
          obtain ⟨f0, f1, f2, f3⟩ := free4 hbz
          have hlz := blk_lt hbz
          obtain ⟨t0, t1, t2, t3⟩ := four hF.bx
          have hlt0 := blk_lt hF.bx
          have hsl := hF.bel.size
          clear hz hF hbz hrz c0 c1 c2 c3 hl0
          by_cases hlj : j < n
          · obtain ⟨p, hpj⟩ := get_at (l := path) (k := j) (by rw [← HN.out]; exact hlj)
            obtain ⟨gp, op, rfl, hgp, cp, hpl⟩ := (FJ.out.texts HP.out).at hpj
            have hj0 : (0 : Int) ≤ (j : Int) := by omega
            have hjn : (j : Int) < (n : Int) := by omega
            have htk := take_snoc hpj
            obtain ⟨gs1, gs2⟩ := K.get_step x (path.take j) p
            rw [← htk, ← HZ.out] at gs1
            rw [← htk] at gs2
            obtain ⟨b, hb⟩ : ∃ b, K.is (K.get x (path.take j)) = b := ⟨_, rfl⟩
            rw [hb] at gs1 gs2 ⊢
            have HB := Lib.hid hb
            clear hb hpj htk
            cases b with
            | true =>
              have hgo := gets_one wr _ _ z p hpl HRZ.out
              have HNX := Lib.hid (gs1 rfl)
              obtain ⟨O, hO⟩ : ∃ O, K.get z [p] = O := ⟨_, rfl⟩
              rw [hO] at hgo
              have HGO := Lib.hid hgo
              have HO := Lib.hid hO
              clear gs1 gs2 hgo hO
              go_wp2_with fail
              refine (HGO.out).mono ?_
              rintro e w6 ⟨hb6, b1, b2, b3, b4, rfl, hr6, _⟩
              obtain ⟨z', hz'⟩ : ∃ z', K.ans O = z' := ⟨_, rfl⟩
              rw [hz'] at hr6 ⊢
              have hbz6 := HBZ.out.under hb6
              obtain ⟨v0, v1, v2, v3⟩ := four hbz6
              obtain ⟨h0, h1, h2, h3⟩ := free4 hbz6
              have hlv := blk_lt hbz6
              have HZ' := Lib.hid hz'
              have F6 := Lib.hid (FJ.out.under hb6)
              have HR6 := Lib.hid hr6
              have HB6 := Lib.hid hbz6
              have hs6 := hb6.size
              clear hz' hbz6 hr6 hb6
              go_wp2
              obtain ⟨G, hG⟩ : ∃ G, G = (((w6.setCell ⟨g, 0, none⟩ (.int .u8 (z'.k : Int))).setCell ⟨g, 1, none⟩ (S z'.s)).setCell ⟨g, 2, none⟩ (.slice b1 z'.l.length b2)).setCell ⟨g, 3, none⟩ (.slice b3 z'.p.length b4) := ⟨_, rfl⟩
              rw [← hG]
              obtain ⟨k1, ko, ks, kb⟩ := put4 HB6.out _ _ _ _ hG
              have hFG : FW w x (.slice ad1 x.l.length cap1) (.slice ad2 m cap2) G := ⟨F6.out.bel.trans (kb.mono (Nat.le_of_lt hgw)), (ko _ (by omega)).trans F6.out.bx⟩
              have hRG : Rep (fun j => j ≠ g) G (.slice b1 z'.l.length b2) (.slice b3 z'.p.length b4) z' := HR6.out.keep (w' := G) ⟨by omega, fun q hq _ => ko q (by have : wr.heap.size ≤ q := hq; omega)⟩ fun q hq _ => by have : wr.heap.size ≤ q := hq; show q ≠ g; omega
              have HFG := Lib.hid hFG
              have HRG := Lib.hid hRG
              have HK1 := Lib.hid k1
              clear hG k1 ko ks kb hFG hRG v0 v1 v2 v3 h0 h1 h2 h3
              go_roundw
              case rel => exact ⟨j + 1, z', b1, b3, b2, b4, by go_num, by omega, by rw [HNX.out, HO.out], HFG.out, HK1.out, Lib.hid (by rw [HNX.out, HO.out, HZ'.out]), HRG.out⟩
              case measure => simp [intOf]; omega
            | false =>
              have HNX := Lib.hid (gs2 rfl)
              clear gs1 gs2
              go_wp2
              go_roundw
              case rel => exact ⟨j + 1, z, a1, a2, e1, e2, by go_num, by omega, by rw [HNX.out.1]; rfl, FJ.out, HBZ.out, Lib.hid (by rw [HZ.out, HNX.out.1, HNX.out.2]), HRZ.out⟩
              case measure => simp [intOf]; omega
          · have hjn : ¬ (j : Int) < (n : Int) := by omega
            have htk : path.take j = path := List.take_of_length_le (by rw [← HN.out]; omega)
            rw [htk] at HZ ⊢
            have hga := gets_any wr _ _ _ x path (FJ.out.rep HR.out) (FJ.out.texts HP.out)
            rw [← HZ.out] at hga
            obtain ⟨b, hb⟩ : ∃ b, K.is (K.get x path) = b := ⟨_, rfl⟩
            rw [hb] at hga ⊢
            have HGA := Lib.hid hga
            clear hga hb htk
            go_wp2_with fail
            refine (HGA.out).mono ?_
            rintro e w6 ⟨hb6, b1, b2, b3, b4, rfl, hr6, _⟩
            obtain ⟨Y, hY⟩ : ∃ X, X = w6.alloc (.cells (nv z (.slice b1 z.l.length b2) (.slice b3 z.p.length b4)) 32) := ⟨_, rfl⟩
            have hbY : Below w6.heap.size w6 Y := by rw [hY]; exact (Below.refl _ w6).alloc (Nat.le_refl _) _
            have hbX : Below wr.heap.size wr Y := hb6.trans (hbY.mono hb6.size)
            have hbk : Box4 Y w6.heap.size z (.slice b1 z.l.length b2) (.slice b3 z.p.length b4) := by rw [hY]; exact blk_new w6 _
            have HS := Lib.hid (same_yes z _ _ Y _ _ _ _ (hr6.under hbY) (HRZ.out.under hbX))
            have FY := Lib.hid (FJ.out.under hbX)
            have HY := Lib.hid hY
            obtain ⟨s0, s1, s2, s3⟩ := four (HBZ.out.under hbX)
            have hls := blk_lt (HBZ.out.under hbX)
            obtain ⟨v0, v1, v2, v3⟩ := four hbk
            have hlY := blk_lt hbk
            clear hb6 hr6 hY hbY hbX hbk t0 t1 t2 t3 r0 r1 r2 r3
            go_upto_region 23 with (fail)
            rw [← HY.out]
            cases b
            all_goals
              go_wp2_with fail
              refine (HS.out).mono ?_
              rintro e w7 ⟨rfl, hb7⟩
              have F7 := Lib.hid (FY.out.under hb7)
              clear hb7 s0 s1 s2 s3 v0 v1 v2 v3
              go_wp2
              refine bodyPost_ret (v := .bool true) (by simp [results, Tryz.results6, go_sem]) rfl ?_
              exact ⟨rfl, F7.out.bel⟩
  · have hc := HCK.out w4 F4.out
    rw [if_neg hright] at hc
    have HC := Lib.hid hc
    clear hc hright
    go_wp2_with fail
    refine (HC.out).mono ?_
    rintro e w5 ⟨rfl, hb5⟩
    have F5 := Lib.hid (F4.out.under hb5)
    clear hb5 c0 c1 c2 c3
    go_wp2
    refine bodyPost_ret (v := .bool true) (by simp [results, Tryz.results6, go_sem]) rfl ?_
    exact ⟨rfl, F5.out.bel⟩
end Go.Proofs.YtegobomfhdfodaaGreatDoor
