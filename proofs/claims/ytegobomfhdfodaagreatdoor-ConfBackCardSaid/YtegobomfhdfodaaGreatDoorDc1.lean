/- CONF: THE WALKS OVER areTexts, isNode, areKeys, Check. -/
import Derived.Test.YtegobomfhdfodaaGreatDoorCw
import Derived.BigQuiet
import Derived.Deep.QuietTactic
import Derived.Deep.RegionHeld3
namespace Go.Proofs.YtegobomfhdfodaaGreatDoor
open Go.RowKit
set_option maxRecDepth 100000
set_option linter.unusedVariables false
set_option linter.unusedSimpArgs false

namespace K
def textsOk (l : List T) : Bool := decide (l.length ≤ 256) && !(l.any fun s => !isText s)
/-- keys that may stand behind seen, each node right by ok -/
def keysF (ok : Nd → Bool) : List (T × Nd) → List (T × Nd) → Bool
  | _, [] => true
  | seen, y :: r => isKey y.1 && (find seen y.1).isNone && ok y.2 && keysF ok (seen ++ [y]) r
/-- whether a node is right with so many maps around it, to the depth f -/
def nodeF : Nat → Nat → Nd → Bool
  | 0, _, _ => false
  | f + 1, a, .mk k s l p =>
    if k = 0 then s.isEmpty && l.isEmpty && (decide (a ≤ 8) && decide (p.length ≤ 256) && keysF (fun x => nodeF f (a + 1) x) [] p)
    else if k = 1 then isText s && decide (l.length + p.length = 0)
    else if k = 2 then s.isEmpty && textsOk l && p.isEmpty
    else false
def nodeOk (a : Nat) (x : Nd) : Bool := nodeF (10 - a) a x
end K
theorem nottext_any (s : K.T) (w : World) : Calls Tryz.prog 95 #[S s] w fun e w' => e = .returned (.bool (!K.isText s)) ∧ Below w.heap.size w w' := by
  have h := text_any s w
  obtain ⟨b, hb⟩ : ∃ b, K.isText s = b := ⟨_, rfl⟩
  rw [hb] at h ⊢
  clear hb
  go_enter Tryz.func95, Tryz.ntmps95
  go_wp2_with (go_at_call 61; refine h.mono ?_; rintro e w1 ⟨rfl, hb1⟩)
  go_ret
  exact ⟨rfl, hb1⟩
theorem test95 (w : World) : Test 95 (fun s => !K.isText s) w := ⟨fun args W => by kernel_rfl, fun W s _ => nottext_any s W⟩
theorem texts_any {B : Nat → Prop} (w : World) (q : Value) (l : List K.T) (hq : RepT B w q l) : Calls Tryz.prog 62 #[q] w fun e w' => e = .returned (.bool (K.textsOk l)) ∧ Below w.heap.size w w' := by
  have hc := contains_texts w q l 95 _ hq (test95 w)
  unfold K.textsOk
  obtain ⟨b, hb⟩ : ∃ b, (l.any fun s => !K.isText s) = b := ⟨_, rfl⟩
  rw [hb] at hc ⊢
  obtain ⟨ad, cap, rfl, hl⟩ := hq.form
  generalize l.length = n at *
  clear hq hb
  by_cases h : n ≤ 256
  · have h' : (n : Int) ≤ 256 := by omega
    rw [decide_eq_true h]
    clear h
    go_enter Tryz.func62, Tryz.ntmps62
    go_wp2_with (go_at_call 51; refine hc.mono ?_; rintro e w1 ⟨rfl, hb1⟩)
    go_ret
    exact ⟨by simp, hb1⟩
  · have h' : ¬ (n : Int) ≤ 256 := by omega
    rw [decide_eq_false h]
    clear h hc
    go_enter Tryz.func62, Tryz.ntmps62
    go_wp2
    go_ret
    exact ⟨by simp, Below.refl _ _⟩
/-- isNode of x, with a maps around it, comes to b -/
def NodeC (x : Nd) (a : Nat) (b : Bool) : Prop := ∀ (B : Nat → Prop) (w : World) (q1 q2 : Value), Rep B w q1 q2 x → Calls Tryz.prog 34 #[.agg (nv x q1 q2), .int .i64 (a : Int)] w fun e w' => e = .returned (.bool b) ∧ Below w.heap.size w w'
/-- areKeys of l -/
def KeysC (l : List (K.T × Nd)) (a : Nat) (b : Bool) : Prop := ∀ (B : Nat → Prop) (w : World) (q : Value), RepK B w q l → Calls Tryz.prog 60 #[q, .int .i64 (a : Int)] w fun e w' => e = .returned (.bool b) ∧ Below w.heap.size w w'
set_option maxHeartbeats 4000000 in
theorem keys_no (l : List (K.T × Nd)) (a : Nat) (ha : a ≤ 100) (h : ¬ (a ≤ 8 ∧ l.length ≤ 256)) : KeysC l a false := by
  intro B w q hq
  obtain ⟨ad, cap, rfl, hl⟩ := hq.form
  generalize l.length = n at *
  clear hq
  by_cases h8 : a ≤ 8
  · have h8' : ¬ (8 : Int) < (a : Int) := by omega
    have hn : (256 : Int) < (n : Int) := by omega
    clear h h8
    go_enter Tryz.func60, Tryz.ntmps60
    go_wp2
    go_ret
    exact ⟨rfl, Below.refl _ _⟩
  · have h8' : (8 : Int) < (a : Int) := by omega
    clear h h8
    go_enter Tryz.func60, Tryz.ntmps60
    go_wp2
    go_ret
    exact ⟨rfl, Below.refl _ _⟩
set_option maxHeartbeats 4000000 in
theorem node_text (x : Nd) (a : Nat) (hk1 : x.k = 1) : NodeC x a (K.isText x.s && decide (x.l.length + x.p.length = 0)) := by
  intro B w q1 q2 hr
  obtain ⟨fit, ht, hp⟩ := hr.parts
  obtain ⟨ad1, cap1, rfl, hl1⟩ := ht.form
  obtain ⟨ad2, cap2, rfl, hl2⟩ := hp.form
  have hl3 := fit.l1
  have hl4 := fit.p1
  have hl5 := fit.k1
  obtain ⟨c0, c1, c2, c3⟩ := At4.box (blk_new w (.cells (nv x (.slice ad1 x.l.length cap1) (.slice ad2 x.p.length cap2)) 32))
  simp only [Nat.zero_add] at c0 c1 c2 c3
  obtain ⟨W, hW⟩ : ∃ W, W = w.alloc (.cells (nv x (.slice ad1 x.l.length cap1) (.slice ad2 x.p.length cap2)) 32) := ⟨_, rfl⟩
  have hB : Below w.heap.size w W := by rw [hW]; exact (Below.refl _ w).alloc (Nat.le_refl _) _
  rw [← hW] at c0 c1 c2 c3
  obtain ⟨k, hk⟩ : ∃ k, x.k = k := ⟨_, rfl⟩
  obtain ⟨s, hs⟩ : ∃ s, x.s = s := ⟨_, rfl⟩
  obtain ⟨n, hn⟩ : ∃ n, x.l.length = n := ⟨_, rfl⟩
  obtain ⟨m, hm⟩ : ∃ n, x.p.length = n := ⟨_, rfl⟩
  rw [hk] at c0 hl5
  rw [hs] at c1
  have htx := fun w => text_any x.s w
  obtain ⟨b, hb⟩ : ∃ b, K.isText x.s = b := ⟨_, rfl⟩
  rw [hb] at htx ⊢
  rw [hs] at htx
  obtain rfl : k = 1 := hk.symm.trans hk1
  rw [hn] at c2 hl1 hl3
  rw [hm] at c3 hl2 hl4
  rw [hn, hm] at hW
  try rw [hn]
  try rw [hm]
  have HW := Lib.hid hW
  have HB := Lib.hid hB
  have HS := Lib.hid (And.intro hs (And.intro hn (And.intro hm hk)))
  clear hr ht hp fit hb hs hn hm hW hB hk hk1
  cases b with
  | false =>
    go_enter Tryz.func34, Tryz.ntmps34
    go_upto_region 1 with (fail)
    rw [← HW.out]
    clear HW
    go_wp2_with (go_at_call 61; refine (htx _).mono ?_; rintro e w1 ⟨rfl, hb1⟩)
    go_ret
    exact ⟨by simp, HB.out.trans (hb1.mono HB.out.size)⟩
  | true =>
    by_cases h0 : n + m = 0
    · have h0' : ((n : Int) + (m : Int) == 0) = true := by simp; omega
      have hn0 : n = 0 := by omega
      have hm0 : m = 0 := by omega
      rw [decide_eq_true h0]
      clear h0
      subst hn0
      subst hm0
      go_enter Tryz.func34, Tryz.ntmps34
      go_upto_region 1 with (fail)
      rw [← HW.out]
      clear HW
      go_wp2_with (go_at_call 61; refine (htx _).mono ?_; rintro e w1 ⟨rfl, hb1⟩; have hlw := hb1.size; have d2 := (hb1.cell (p := ⟨w.heap.size, 2, none⟩) (World.block_lt_of_cell? W _ c2)).trans c2; have d3 := (hb1.cell (p := ⟨w.heap.size, 3, none⟩) (World.block_lt_of_cell? W _ c3)).trans c3; have hl9 := World.block_lt_of_cell? w1 _ d2)
      go_ret
      exact ⟨by simp, HB.out.trans (hb1.mono HB.out.size)⟩
    · have h0' : ((n : Int) + (m : Int) == 0) = false := by simp; omega
      rw [decide_eq_false h0]
      have hnm : (n : Int) + (m : Int) ≤ 1000000000000000 := by omega
      clear h0
      go_enter Tryz.func34, Tryz.ntmps34
      go_upto_region 1 with (fail)
      rw [← HW.out]
      clear HW
      go_wp2_with (go_at_call 61; refine (htx _).mono ?_; rintro e w1 ⟨rfl, hb1⟩; have hlw := hb1.size; have d2 := (hb1.cell (p := ⟨w.heap.size, 2, none⟩) (World.block_lt_of_cell? W _ c2)).trans c2; have d3 := (hb1.cell (p := ⟨w.heap.size, 3, none⟩) (World.block_lt_of_cell? W _ c3)).trans c3; have hl9 := World.block_lt_of_cell? w1 _ d2)
      go_ret
      exact ⟨by simp, HB.out.trans (hb1.mono HB.out.size)⟩
set_option maxHeartbeats 4000000 in
theorem node_other (x : Nd) (a : Nat) (h0 : ¬ x.k = 0) (h1 : ¬ x.k = 1) (h2 : ¬ x.k = 2) : NodeC x a false := by
  intro B w q1 q2 hr
  obtain ⟨fit, ht, hp⟩ := hr.parts
  obtain ⟨ad1, cap1, rfl, hl1⟩ := ht.form
  obtain ⟨ad2, cap2, rfl, hl2⟩ := hp.form
  have hl3 := fit.l1
  have hl4 := fit.p1
  have hl5 := fit.k1
  obtain ⟨c0, c1, c2, c3⟩ := At4.box (blk_new w (.cells (nv x (.slice ad1 x.l.length cap1) (.slice ad2 x.p.length cap2)) 32))
  simp only [Nat.zero_add] at c0 c1 c2 c3
  obtain ⟨W, hW⟩ : ∃ W, W = w.alloc (.cells (nv x (.slice ad1 x.l.length cap1) (.slice ad2 x.p.length cap2)) 32) := ⟨_, rfl⟩
  have hB : Below w.heap.size w W := by rw [hW]; exact (Below.refl _ w).alloc (Nat.le_refl _) _
  rw [← hW] at c0 c1 c2 c3
  obtain ⟨k, hk⟩ : ∃ k, x.k = k := ⟨_, rfl⟩
  obtain ⟨s, hs⟩ : ∃ s, x.s = s := ⟨_, rfl⟩
  obtain ⟨n, hn⟩ : ∃ n, x.l.length = n := ⟨_, rfl⟩
  obtain ⟨m, hm⟩ : ∃ n, x.p.length = n := ⟨_, rfl⟩
  rw [hk] at c0 hl5
  rw [hs] at c1
  rw [hk] at h0 h1 h2
  have e0 : ((k : Int) == 0) = false := by simp; omega
  have e1 : ((k : Int) == 1) = false := by simp; omega
  have e2 : ((k : Int) == 2) = false := by simp; omega
  rw [hn] at c2 hl1 hl3
  rw [hm] at c3 hl2 hl4
  rw [hn, hm] at hW
  try rw [hn]
  try rw [hm]
  have HW := Lib.hid hW
  have HB := Lib.hid hB
  have HS := Lib.hid (And.intro hs (And.intro hn (And.intro hm hk)))
  clear hr ht hp fit hs hn hm hW hB hk h0 h1 h2
  go_enter Tryz.func34, Tryz.ntmps34
  go_upto_region 1 with (fail)
  rw [← HW.out]
  clear HW
  go_wp2
  go_ret
  exact ⟨rfl, HB.out⟩
set_option maxHeartbeats 4000000 in
theorem node_list (x : Nd) (a : Nat) (hk2 : x.k = 2) : NodeC x a (x.s.isEmpty && K.textsOk x.l && x.p.isEmpty) := by
  intro B w q1 q2 hr
  obtain ⟨fit, ht, hp⟩ := hr.parts
  obtain ⟨ad1, cap1, rfl, hl1⟩ := ht.form
  obtain ⟨ad2, cap2, rfl, hl2⟩ := hp.form
  have hl3 := fit.l1
  have hl4 := fit.p1
  have hl5 := fit.k1
  obtain ⟨c0, c1, c2, c3⟩ := At4.box (blk_new w (.cells (nv x (.slice ad1 x.l.length cap1) (.slice ad2 x.p.length cap2)) 32))
  simp only [Nat.zero_add] at c0 c1 c2 c3
  obtain ⟨W, hW⟩ : ∃ W, W = w.alloc (.cells (nv x (.slice ad1 x.l.length cap1) (.slice ad2 x.p.length cap2)) 32) := ⟨_, rfl⟩
  have hB : Below w.heap.size w W := by rw [hW]; exact (Below.refl _ w).alloc (Nat.le_refl _) _
  rw [← hW] at c0 c1 c2 c3
  obtain ⟨k, hk⟩ : ∃ k, x.k = k := ⟨_, rfl⟩
  obtain ⟨s, hs⟩ : ∃ s, x.s = s := ⟨_, rfl⟩
  obtain ⟨n, hn⟩ : ∃ n, x.l.length = n := ⟨_, rfl⟩
  obtain ⟨m, hm⟩ : ∃ n, x.p.length = n := ⟨_, rfl⟩
  rw [hk] at c0 hl5
  rw [hs] at c1
  have htx := texts_any W _ x.l (ht.under hB)
  obtain ⟨b, hb⟩ : ∃ b, K.textsOk x.l = b := ⟨_, rfl⟩
  rw [hb] at htx ⊢
  have hpe : x.p.isEmpty = decide (m = 0) := by rw [← hm]; cases x.p <;> simp
  rw [hpe]
  obtain rfl : k = 2 := hk.symm.trans hk2
  rw [hs]
  rw [hn] at c2 hl1 hl3 htx
  rw [hm] at c3 hl2 hl4
  rw [hn, hm] at hW
  try rw [hn]
  try rw [hm]
  have HW := Lib.hid hW
  have HB := Lib.hid hB
  have HS := Lib.hid (And.intro hs (And.intro hn (And.intro hm hk)))
  clear hr ht hp fit hb hs hn hm hW hB hk hk2 hpe
  by_cases h0 : s = []
  · subst h0
    cases b with
    | false =>
      go_enter Tryz.func34, Tryz.ntmps34
      go_upto_region 1 with (fail)
      rw [← HW.out]
      clear HW
      go_wp2_with (go_at_call 62; refine htx.mono ?_; rintro e w1 ⟨rfl, hb1⟩)
      go_ret
      exact ⟨by simp, HB.out.trans (hb1.mono HB.out.size)⟩
    | true =>
      have HMM : (m : Int) = 0 ↔ m = 0 := by omega
      by_cases hm0 : m = 0
      · subst hm0
        clear HMM
        go_enter Tryz.func34, Tryz.ntmps34
        go_upto_region 1 with (fail)
        rw [← HW.out]
        clear HW
        go_wp2_with (go_at_call 62; refine htx.mono ?_; rintro e w1 ⟨rfl, hb1⟩; have d3 := (hb1.cell (p := ⟨w.heap.size, 3, none⟩) (World.block_lt_of_cell? W _ c3)).trans c3; have hl9 := World.block_lt_of_cell? w1 _ d3)
        go_ret
        exact ⟨by simp, HB.out.trans (hb1.mono HB.out.size)⟩
      · have hm0' : ((m : Int) == 0) = false := by simp; omega
        rw [decide_eq_false hm0]
        clear HMM hm0
        go_enter Tryz.func34, Tryz.ntmps34
        go_upto_region 1 with (fail)
        rw [← HW.out]
        clear HW
        go_wp2_with (go_at_call 62; refine htx.mono ?_; rintro e w1 ⟨rfl, hb1⟩; have d3 := (hb1.cell (p := ⟨w.heap.size, 3, none⟩) (World.block_lt_of_cell? W _ c3)).trans c3; have hl9 := World.block_lt_of_cell? w1 _ d3)
        go_ret
        exact ⟨by simp, HB.out.trans (hb1.mono HB.out.size)⟩
  · have hse : List.isEmpty s = false := by cases s with | nil => exact absurd rfl h0 | cons _ _ => rfl
    rw [hse]
    clear h0 htx
    go_enter Tryz.func34, Tryz.ntmps34
    go_upto_region 1 with (fail)
    rw [← HW.out]
    clear HW
    go_wp2
    go_ret
    exact ⟨by simp, HB.out⟩
set_option maxHeartbeats 4000000 in
theorem node_map (x : Nd) (a : Nat) (b : Bool) (hk0 : x.k = 0) (hkc : KeysC x.p a b) : NodeC x a (x.s.isEmpty && x.l.isEmpty && b) := by
  intro B w q1 q2 hr
  obtain ⟨fit, ht, hp⟩ := hr.parts
  obtain ⟨ad1, cap1, rfl, hl1⟩ := ht.form
  obtain ⟨ad2, cap2, rfl, hl2⟩ := hp.form
  have hl3 := fit.l1
  have hl4 := fit.p1
  have hl5 := fit.k1
  obtain ⟨c0, c1, c2, c3⟩ := At4.box (blk_new w (.cells (nv x (.slice ad1 x.l.length cap1) (.slice ad2 x.p.length cap2)) 32))
  simp only [Nat.zero_add] at c0 c1 c2 c3
  obtain ⟨W, hW⟩ : ∃ W, W = w.alloc (.cells (nv x (.slice ad1 x.l.length cap1) (.slice ad2 x.p.length cap2)) 32) := ⟨_, rfl⟩
  have hB : Below w.heap.size w W := by rw [hW]; exact (Below.refl _ w).alloc (Nat.le_refl _) _
  rw [← hW] at c0 c1 c2 c3
  obtain ⟨k, hk⟩ : ∃ k, x.k = k := ⟨_, rfl⟩
  obtain ⟨s, hs⟩ : ∃ s, x.s = s := ⟨_, rfl⟩
  obtain ⟨n, hn⟩ : ∃ n, x.l.length = n := ⟨_, rfl⟩
  obtain ⟨m, hm⟩ : ∃ n, x.p.length = n := ⟨_, rfl⟩
  rw [hk] at c0 hl5
  rw [hs] at c1
  have htx := hkc B W _ (hp.under hB)
  have hpe : x.l.isEmpty = decide (n = 0) := by rw [← hn]; cases x.l <;> simp
  rw [hpe]
  obtain rfl : k = 0 := hk.symm.trans hk0
  rw [hs]
  rw [hn] at c2 hl1 hl3
  rw [hm] at c3 hl2 hl4 htx
  rw [hn, hm] at hW
  try rw [hn]
  try rw [hm]
  have HW := Lib.hid hW
  have HB := Lib.hid hB
  have HS := Lib.hid (And.intro hs (And.intro hn (And.intro hm hk)))
  clear hr ht hp fit hs hn hm hW hB hk hk0 hpe hkc
  by_cases h0 : s = []
  · subst h0
    by_cases hn0 : n = 0
    · subst hn0
      go_enter Tryz.func34, Tryz.ntmps34
      go_upto_region 1 with (fail)
      rw [← HW.out]
      clear HW
      go_wp2_with (go_at_call 60; refine htx.mono ?_; rintro e w1 ⟨rfl, hb1⟩)
      go_ret
      exact ⟨by simp, HB.out.trans (hb1.mono HB.out.size)⟩
    · have hn0' : ((n : Int) == 0) = false := by simp; omega
      rw [decide_eq_false hn0]
      clear hn0 htx
      go_enter Tryz.func34, Tryz.ntmps34
      go_upto_region 1 with (fail)
      rw [← HW.out]
      clear HW
      go_wp2
      go_ret
      exact ⟨by simp, HB.out⟩
  · have hse : List.isEmpty s = false := by cases s with | nil => exact absurd rfl h0 | cons _ _ => rfl
    rw [hse]
    clear h0 htx
    go_enter Tryz.func34, Tryz.ntmps34
    go_upto_region 1 with (fail)
    rw [← HW.out]
    clear HW
    go_wp2
    go_ret
    exact ⟨by simp, HB.out⟩
end Go.Proofs.YtegobomfhdfodaaGreatDoor
