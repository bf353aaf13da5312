/- CONF: THE WALK OVER Print. -/
import Derived.Test.YtegobomfhdfodaaGreatDoorDh
import Derived.Test.YtegobomfhdfodaaGreatDoorCy
namespace Go.Proofs.YtegobomfhdfodaaGreatDoor
open Go.RowKit
set_option maxRecDepth 100000
set_option linter.unusedVariables false
set_option linter.unusedSimpArgs false

theorem keysw_all (B b : Nat) : ∀ f, KeysW B b f
  | 0 => keys_step B b 0 (fun f' h => by omega)
  | f + 1 => keys_step B b (f + 1) (fun f' h => by
    obtain rfl : f' = f := by omega
    exact keysw_all B b f')
theorem keys_nil (w : World) (b : Nat) (ad : Option Addr) (cap : Nat) : Calls Tryz.prog 27 #[.pointer (some ⟨b, 0, none⟩), .slice ad 0 cap, S []] w fun e w' => e = .returned (.tuple #[]) ∧ w' = w := by
  go_enter Tryz.func27, Tryz.ntmps27
  go_wp2
  go_loopw [10] (fun i wr => i = .int .i64 0 ∧ wr = w) (fun i _ => 0)
  case atStart => exact ⟨rfl, rfl⟩
  case round =>
    obtain ⟨rfl, rfl⟩ := hrel
    go_wp2
    go_end0
    exact ⟨rfl, rfl⟩
theorem IsW.set {B b g : Nat} {l : K.T} {w : World} {cs : Array Value} {t : TypeId} {f : Nat × Nat} (h : IsW B b l w) (hg : w.heap[g]? = some (.cells cs t f)) (h5 : t ≠ 5) (h58 : t ≠ 58) (v : Value) : IsW B b l (w.setCell ⟨g, 0, none⟩ v) := by
  have hgr := set_grown1 w g 0 v
  have key : ∀ p, Lib.BuilderAt 58 5 B b p (Lib.byteCells l) w → Lib.BuilderAt 58 5 B b p (Lib.byteCells l) (w.setCell ⟨g, 0, none⟩ v) := by
    rintro p ⟨hB, u, hk, hown, hne⟩
    have hne1 : b ≠ g := fun e => by subst e; rw [hk] at hg; injection hg with hg; injection hg with _ hg _; exact h58 hg.symm
    refine ⟨hB, u, (hgr.block b (blk_lt hk) (fun e => hne1 (Option.some.inj e))).trans hk, World.ownsRow.kept hown hgr ?_, hne⟩
    rcases hown.2 with ⟨hv, _⟩ | ⟨z, cap, cur, hv, _, hz, _⟩
    · exact .inl (by rw [hv]; rfl)
    · refine .inr (fun e => ?_)
      rw [hv] at e
      have e : z = g := (Option.some.inj e)
      subst e
      rw [hz] at hg
      injection hg with hg
      injection hg with _ hg _
      exact h5 hg.symm
  rcases h with h | h
  · exact .inl (key _ h)
  · exact .inr (key _ h)
namespace K
/-- a config as text, or why not -/
def print (x : Nd) : Except Int T := if right x then (if (keysS 10 [] x.p).length ≤ 16384 then .ok (keysS 10 [] x.p) else .error 4) else .error 15
def shownR : Except Int T → Array Value
  | .ok t => #[S t, .int .i64 0]
  | .error c => #[S [], .int .i64 c]
end K
theorem keysS_ne (f : Nat) (ind : K.T) (p : List (K.T × Nd)) (h : p ≠ []) : K.keysS (f + 1) ind p ≠ [] := by
  cases p with
  | nil => exact absurd rfl h
  | cons y r =>
    intro e
    have := congrArg List.length e
    rw [K.keysS, List.flatMap_cons] at this
    simp only [List.length_append, List.length_cons, List.length_nil] at this
    omega
/-- the inner function: the lines of the config in the block bx -/
theorem print_in (W : World) (b bx : Nat) (q : Value) (p : List (K.T × Nd)) (c0 c1 c2 : Value) (h : IsW b b [] W) (hbx : W.heap[bx]? = some (.cells #[c0, c1, c2, q] 32 (0, 0))) (hq : RepK (fun g => g < b) W q p) (hp : ∀ y ∈ p, y.1.length ≤ 64 ∧ K.nodeF 9 1 y.2 = true) (hb : b ≤ W.heap.size) (h4 : 4 < b) (hT : Tb W) :
    Calls Tryz.prog 26 #[.pointer (some ⟨b, 0, none⟩), .pointer (some ⟨bx, 0, none⟩)] W (WP b b W (K.keysS 10 [] p)) := by
  have hk := keysw_all b b 9 W [] [] q p 1 h hq hp (by simp) (by simp) hb h4 hT
  rw [List.nil_append] at hk
  obtain ⟨T, hT⟩ : ∃ T, K.keysS (9 + 1) [] p = T := ⟨_, rfl⟩
  rw [hT] at hk
  rw [show K.keysS 10 [] p = T from hT]
  have x3 : W.cell? ⟨bx, 3, none⟩ = some q := cell_of_row W bx 3 _ 32 (0, 0) hbx
  have hlt := blk_lt hbx
  obtain ⟨ad, cap, rfl, _⟩ := hq.form
  generalize p.length = n at *
  have HK := Lib.hid hk
  clear hk hT h hbx hq hp
  go_enter Tryz.func26, Tryz.ntmps26
  go_wp2_with fail
  refine (HK.out).mono ?_
  rintro e w1 ⟨hb1, ho1, hwp⟩
  by_cases hl : T.length ≤ 16384
  · rw [if_pos hl] at hwp
    obtain ⟨rfl, hw⟩ := hwp
    go_wp2
    go_end0
    exact ⟨hb1, ho1, by rw [if_pos hl]; exact ⟨rfl, hw⟩⟩
  · rw [if_neg hl] at hwp
    obtain rfl := hwp
    go_wp2
    exact ⟨rfl, hb1, ho1, by rw [if_neg hl]⟩
theorem print_nil (W : World) (b bx : Nat) (ad : Option Addr) (cap : Nat) (c0 c1 c2 : Value) (hbx : W.heap[bx]? = some (.cells #[c0, c1, c2, .slice ad 0 cap] 32 (0, 0))) :
    Calls Tryz.prog 26 #[.pointer (some ⟨b, 0, none⟩), .pointer (some ⟨bx, 0, none⟩)] W fun e w' => e = .returned (.tuple #[]) ∧ w' = W := by
  have x3 : W.cell? ⟨bx, 3, none⟩ = some (.slice ad 0 cap) := cell_of_row W bx 3 _ 32 (0, 0) hbx
  have hlt := blk_lt hbx
  clear hbx
  go_enter Tryz.func26, Tryz.ntmps26
  go_wp2_with fail
  refine (keys_nil W b ad cap).mono ?_
  rintro e w1 ⟨rfl, rfl⟩
  go_wp2
  go_end0
  exact ⟨rfl, rfl⟩
set_option maxHeartbeats 8000000 in
theorem print_any {B : Nat → Prop} (w : World) (q1 q2 : Value) (x : Nd) (hr : Rep B w q1 q2 x) (hT : Tb w) :
    Calls Tryz.prog 15 #[.agg (nv x q1 q2)] w fun e w' => Below w.heap.size w w' ∧ e = .returned (.tuple (K.shownR (K.print x))) := by
  obtain ⟨fit, hrt, hrk⟩ := hr.parts
  obtain ⟨ad1, cap1, rfl, hl1⟩ := hrt.form
  obtain ⟨ad2, cap2, rfl, hl2⟩ := hrk.form
  obtain ⟨W, hW⟩ : ∃ W, W = w.alloc (.cells (nv x (.slice ad1 x.l.length cap1) (.slice ad2 x.p.length cap2)) 32) := ⟨_, rfl⟩
  have hbx : W.heap[w.heap.size]? = some (.cells #[.int .u8 (x.k : Int), S x.s, .slice ad1 x.l.length cap1, .slice ad2 x.p.length cap2] 32 (0, 0)) := by rw [hW]; exact blk_new w _
  obtain ⟨c0, c1, c2, c3⟩ := At4.box hbx
  simp only [Nat.zero_add] at c0 c1 c2 c3
  have hB : Below w.heap.size w W := by rw [hW]; exact (Below.refl _ w).alloc (Nat.le_refl _) _
  have hck := ccheck_any W _ _ x (hr.under hB)
  have hTW := hT.under hB
  have hrkW : RepK (fun g => g < W.heap.size) W (.slice ad2 x.p.length cap2) x.p := (hrk.under hB).mono fun _ _ h => h
  obtain ⟨R, hR⟩ : ∃ R, K.print x = R := ⟨_, rfl⟩
  rw [hR]
  have HW := Lib.hid hW
  have HB := Lib.hid hB
  have HBX := Lib.hid hbx
  have HT := Lib.hid hTW
  have HRK := Lib.hid hrkW
  have HR := Lib.hid hR
  have hltW := blk_lt hbx
  clear hW hB hbx hTW hrkW hR hr hrt hrk hT fit
  by_cases hright : K.right x = true
  · rw [if_pos hright] at hck
    have hnode := hright
    unfold K.right at hnode
    simp only [Bool.and_eq_true, decide_eq_true_eq] at hnode
    have hpp := (K.node_true hnode.2).1
    have HPP := Lib.hid hpp
    have HRI := Lib.hid hright
    have HCK := Lib.hid hck
    clear hright hnode hpp hck
    go_enter Tryz.func15, Tryz.ntmps15
    go_upto_region 1 with (fail)
    rw [← HW.out]
    go_wp2_with fail
    refine (HCK.out).mono ?_
    rintro e w2 ⟨rfl, hb2⟩
    obtain ⟨V, hV⟩ : ∃ V, V = w2.alloc (.cells #[.pointer none, .slice none 0 0] 58) := ⟨_, rfl⟩
    have hlow : Below w.heap.size w w2 := HB.out.trans (hb2.mono HB.out.size)
    have hV2 : Below w2.heap.size w2 V := by rw [hV]; exact (Below.refl _ _).alloc (Nat.le_refl _) _
    have hnew : IsW w2.heap.size w2.heap.size [] V := by rw [hV]; exact IsW.new w2
    have hcell : V.heap[w2.heap.size]? = some (.cells #[.pointer none, .slice none 0 0] 58 (0, 0)) := by rw [hV]; exact blk_new w2 _
    have hsz : w2.heap.size < V.heap.size := blk_lt hcell
    obtain ⟨X, hX⟩ : ∃ X, X = V.alloc (.cells #[.int .i64 0] 23) := ⟨_, rfl⟩
    have hX2 : Below V.heap.size V X := by rw [hX]; exact (Below.refl _ _).alloc (Nat.le_refl _) _
    have hXc : X.heap[V.heap.size]? = some (.cells #[.int .i64 0] 23 (0, 0)) := by rw [hX]; exact blk_new V _
    have hwX : Below w2.heap.size w2 X := hV2.trans (hX2.mono hV2.size)
    have hbxX : X.heap[w.heap.size]? = some (.cells #[.int .u8 (x.k : Int), S x.s, .slice ad1 x.l.length cap1, .slice ad2 x.p.length cap2] 32 (0, 0)) := blk_under (blk_under HBX.out hb2) hwX
    have hbwX : Below W.heap.size W X := hb2.trans (hwX.mono hb2.size)
    have hw2 : W.heap.size ≤ w2.heap.size := hb2.size
    have hh4 : 4 < w2.heap.size := Nat.lt_of_lt_of_le HT.out.2 hb2.size
    have hVX : w2.heap.size ≤ X.heap.size := hwX.size
    by_cases hnil : x.p = []
    · have hin := print_nil X w2.heap.size w.heap.size ad2 cap2 (.int .u8 (x.k : Int)) (S x.s) (.slice ad1 x.l.length cap1) (by rw [hnil] at hbxX; exact hbxX)
      have hRR : R = .ok [] := by
        rw [← HR.out, K.print, if_pos HRI.out, hnil]
        rfl
      have hcl : Calls Tryz.prog 26 #[.pointer (some ⟨w2.heap.size, 0, none⟩), .pointer (some ⟨w.heap.size, 0, none⟩)] (V.alloc (.cells #[.int .i64 0] 23)) fun en w1 => en = .returned (.tuple #[]) ∧ w1.heap[V.heap.size]? = some (.cells #[.int .i64 0] 23 (0, 0)) ∧ w1 = X := by
        rw [← hX]
        refine hin.mono ?_
        rintro e w1 ⟨rfl, rfl⟩
        exact ⟨rfl, hXc, rfl⟩
      have hc := caught_ok V 26 _ _ (fun W => by kernel_rfl) hcl
      have HC := Lib.hid hc
      have HRR := Lib.hid hRR
      have HVV := Lib.hid (And.intro hV hX)
      have HXX := Lib.hid (And.intro hlow (And.intro hwX (And.intro (blk_under hcell hX2) hXc)))
      clear hc hRR hV hX hlow hV2 hnew hcell hX2 hXc hwX hbxX hbwX hcl hin hb2 hnil
      go_wp2_with fail
      rw [← HVV.out.1]
      refine (HC.out).mono ?_
      rintro e w3 ⟨rfl, w1, rfl, h23, rfl⟩
      have hne : w2.heap.size ≠ V.heap.size := by omega
      have hst := wstr_nil w2.heap.size w2.heap.size (.pointer none) (w1.setCell ⟨V.heap.size, 0, none⟩ (.int .i64 0)) (((set_grown1 w1 V.heap.size 0 (.int .i64 0)).block _ (by have := HXX.out.2.1.size; have := blk_lt HXX.out.2.2.1; omega) (fun e => hne (Option.some.inj e))).trans HXX.out.2.2.1)
      have HST := Lib.hid hst
      have HSB := Lib.hid (show Below w.heap.size w (w1.setCell ⟨V.heap.size, 0, none⟩ (.int .i64 0)) from (HXX.out.1.trans (HXX.out.2.1.mono HXX.out.1.size)).setCell (p := ⟨V.heap.size, 0, none⟩) (by show w.heap.size ≤ V.heap.size; have := HXX.out.1.size; omega) _)
      clear hst
      go_wp2_with fail
      refine (HST.out).mono ?_
      rintro e w4 ⟨rfl, hb4⟩
      go_wp2
      refine bodyPost_ret (v := .tuple #[S [], .int .i64 0]) (by simp [results, Tryz.results15, go_sem]) rfl ?_
      exact ⟨HSB.out.trans (hb4.mono HXX.out.1.size), by rw [HRR.out]; rfl⟩
    · have hTne := keysS_ne 9 [] x.p hnil
      have hrkX : RepK (fun g => g < w2.heap.size) X (.slice ad2 x.p.length cap2) x.p := (HRK.out.under hbwX).mono fun g h _ => Nat.lt_of_lt_of_le h hw2
      have hin := print_in X w2.heap.size w.heap.size (.slice ad2 x.p.length cap2) x.p (.int .u8 (x.k : Int)) (S x.s) (.slice ad1 x.l.length cap1) (hnew.kept hX2) hbxX hrkX HPP.out hVX hh4 (HT.out.under hbwX)
      have hRR := HR.out
      rw [K.print, if_pos HRI.out] at hRR
      obtain ⟨T, hTT⟩ : ∃ T, K.keysS (9 + 1) [] x.p = T := ⟨_, rfl⟩
      rw [show K.keysS 10 [] x.p = T from hTT] at hRR hin
      rw [hTT] at hTne
      by_cases hl : T.length ≤ 16384
      · rw [if_pos hl] at hRR
        have hcl : Calls Tryz.prog 26 #[.pointer (some ⟨w2.heap.size, 0, none⟩), .pointer (some ⟨w.heap.size, 0, none⟩)] (V.alloc (.cells #[.int .i64 0] 23)) fun en w1 => en = .returned (.tuple #[]) ∧ w1.heap[V.heap.size]? = some (.cells #[.int .i64 0] 23 (0, 0)) ∧ (IsW w2.heap.size w2.heap.size T w1 ∧ Below w2.heap.size X w1) := by
          rw [← hX]
          refine hin.mono ?_
          rintro e w1 hwp
          obtain ⟨rfl, hw1, hb1, ho1⟩ := hwp.yes hl
          exact ⟨rfl, ho1.2 _ _ _ _ hXc (by decide) (by decide), hw1, hb1⟩
        have hc := caught_ok V 26 _ _ (fun W => by kernel_rfl) hcl
        have HC := Lib.hid hc
        have HRR := Lib.hid hRR
        have HVV := Lib.hid (And.intro hV hX)
        have HXX := Lib.hid (And.intro hlow (And.intro hwX hTne))
        clear hc hRR hV hX hlow hV2 hnew hcell hX2 hXc hwX hbxX hbwX hcl hin hb2 hnil hTne hTT hl hrkX
        go_wp2_with fail
        rw [← HVV.out.1]
        refine (HC.out).mono ?_
        rintro e w3 ⟨rfl, w1, ⟨hw1, hb1⟩, h23, rfl⟩
        have hst := wstr_some w2.heap.size w2.heap.size T (w1.setCell ⟨V.heap.size, 0, none⟩ (.int .i64 0)) (hw1.set h23 (by decide) (by decide) _) HXX.out.2.2
        have HST := Lib.hid hst
        have HSB := Lib.hid (show Below w.heap.size w (w1.setCell ⟨V.heap.size, 0, none⟩ (.int .i64 0)) from (HXX.out.1.trans ((HXX.out.2.1.trans hb1).mono HXX.out.1.size)).setCell (p := ⟨V.heap.size, 0, none⟩) (by show w.heap.size ≤ V.heap.size; have := HXX.out.1.size; omega) _)
        clear hst hw1 hb1 h23
        go_wp2_with fail
        refine (HST.out).mono ?_
        rintro e w4 ⟨rfl, hb4⟩
        go_wp2
        refine bodyPost_ret (v := .tuple #[S T, .int .i64 0]) (by simp [results, Tryz.results15, go_sem]) rfl ?_
        exact ⟨HSB.out.trans (hb4.mono HXX.out.1.size), by rw [← HRR.out]; rfl⟩
      · rw [if_neg hl] at hRR
        have hcl : Calls Tryz.prog 26 #[.pointer (some ⟨w2.heap.size, 0, none⟩), .pointer (some ⟨w.heap.size, 0, none⟩)] (V.alloc (.cells #[.int .i64 0] 23)) fun en w1 => en = .panicked [{ v := .iface 23 (.int .i64 4), recovered := false }] ∧ w1.heap[V.heap.size]? = some (.cells #[.int .i64 0] 23 (0, 0)) ∧ (Below w2.heap.size X w1) := by
          rw [← hX]
          refine hin.mono ?_
          rintro e w1 hwp
          obtain ⟨rfl, hb1, ho1⟩ := hwp.no hl
          exact ⟨rfl, ho1.2 _ _ _ _ hXc (by decide) (by decide), hb1⟩
        have hc := caught_no V 26 _ _ 4 (fun W => by kernel_rfl) hcl
        have HC := Lib.hid hc
        have HRR := Lib.hid hRR
        have HVV := Lib.hid (And.intro hV hX)
        have HXX := Lib.hid (And.intro hlow (And.intro hwX hTne))
        clear hc hRR hV hX hlow hV2 hnew hcell hX2 hXc hwX hbxX hbwX hcl hin hb2 hnil hTne hTT hl hrkX
        go_wp2_with fail
        rw [← HVV.out.1]
        refine (HC.out).mono ?_
        rintro e w3 ⟨rfl, w1, hb1, h23, rfl⟩
        have HSB := Lib.hid (show Below w.heap.size w (w1.setCell ⟨V.heap.size, 0, none⟩ (.int .i64 4)) from (HXX.out.1.trans ((HXX.out.2.1.trans hb1).mono HXX.out.1.size)).setCell (p := ⟨V.heap.size, 0, none⟩) (by show w.heap.size ≤ V.heap.size; have := HXX.out.1.size; omega) _)
        clear hb1 h23
        go_wp2
        refine bodyPost_ret (v := .tuple #[S [], .int .i64 4]) (by simp [results, Tryz.results15, go_sem]) rfl ?_
        exact ⟨HSB.out, by rw [← HRR.out]; rfl⟩
  · rw [if_neg hright] at hck
    have hRR : R = .error 15 := by rw [← HR.out, K.print, if_neg hright]
    have HRR := Lib.hid hRR
    have HCK := Lib.hid hck
    clear hright hRR hck
    go_enter Tryz.func15, Tryz.ntmps15
    go_upto_region 1 with (fail)
    rw [← HW.out]
    go_wp2_with fail
    refine (HCK.out).mono ?_
    rintro e w2 ⟨rfl, hb2⟩
    go_wp2
    refine bodyPost_ret (v := .tuple #[S [], .int .i64 15]) (by simp [results, Tryz.results15, go_sem]) rfl ?_
    exact ⟨HB.out.trans (hb2.mono HB.out.size), by rw [HRR.out]; rfl⟩
end Go.Proofs.YtegobomfhdfodaaGreatDoor
