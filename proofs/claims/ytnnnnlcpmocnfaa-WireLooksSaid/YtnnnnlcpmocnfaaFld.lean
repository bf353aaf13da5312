/- THE WALK OVER the reader's field. -/
import Derived.Test.YtnnnnlcpmocnfaaFix
import Derived.Test.YtnnnnlcpmocnfaaWr
namespace Go.Proofs.Ytnnnnlcpmocnfaa
open Go.RowKit
set_option linter.unusedVariables false
set_option linter.unusedSimpArgs false

/-- num, with what is kept -/
theorem num_keep (g : Nat) (l : List UInt8) (w : World) (hl : l.length ≤ 9223372036854775807) (hx : Rdr w g l) (n k : Nat) (hr : M.rd l = some (n, k)) :
    Calls Try.prog 46 #[.pointer (some ⟨g, 0, none⟩)] w fun e w' => e = .returned (.int .u64 (n : Int)) ∧ Rdr w' g (l.drop k) ∧ w.grownBy w' (some g) :=
  (num_some g l w hl hx n k hr).mono fun _ _ ⟨he, hw⟩ => ⟨he, by rw [← hw]; exact hx.set _, by rw [← hw]; exact grownBy_set g _⟩
theorem take_keep (g : Nat) (l : List UInt8) (m : Int) (w : World) (hl : l.length ≤ 9223372036854775807) (hx : Rdr w g l) (h0 : 0 ≤ m) (hm : m ≤ (l.length : Int)) :
    Calls Try.prog 48 #[.pointer (some ⟨g, 0, none⟩), .int .u64 m] w fun e w' => e = .returned (.string ⟨(l.take m.toNat).toArray⟩) ∧ Rdr w' g (l.drop m.toNat) ∧ w.grownBy w' (some g) :=
  (take_yes g l m w hl hx h0 hm).mono fun _ _ ⟨he, hw⟩ => ⟨he, by rw [← hw]; exact hx.set _, by rw [← hw]; exact grownBy_set g _⟩

/-- block b holds four cells -/
def Blk4 (w : World) (b : Nat) (x0 x1 x2 x3 : Value) : Prop := w.heap[b]? = some (.cells #[x0, x1, x2, x3] 39 (0, 0))
theorem Blk4.keep {w w' : World} {b g : Nat} {x0 x1 x2 x3 : Value} (h : Blk4 w b x0 x1 x2 x3) (hg : w.grownBy w' (some g)) (hne : b ≠ g) : Blk4 w' b x0 x1 x2 x3 :=
  (hg.block b (Array.getElem?_eq_some_iff.1 h).1 (by intro e; injection e with e; exact hne e)).trans h
theorem Blk4.alloc {w : World} {b : Nat} {x0 x1 x2 x3 : Value} (h : Blk4 w b x0 x1 x2 x3) (o : Obj) : Blk4 (w.alloc o) b x0 x1 x2 x3 := blk_alloc h o
theorem Blk4.facts {w : World} {b : Nat} {x0 x1 x2 x3 : Value} (h : Blk4 w b x0 x1 x2 x3) :
    (w.cell? ⟨b, 0, none⟩ = some x0 ∧ w.cell? ⟨b, 1, none⟩ = some x1 ∧ w.cell? ⟨b, 2, none⟩ = some x2 ∧ w.cell? ⟨b, 3, none⟩ = some x3) ∧
    w.frozen? ⟨b, 0, none⟩ = false ∧ w.frozen? ⟨b, 1, none⟩ = false ∧ w.frozen? ⟨b, 2, none⟩ = false ∧ w.frozen? ⟨b, 3, none⟩ = false :=
  ⟨box4 h, by simp [World.frozen?, show w.heap[b]? = _ from h], by simp [World.frozen?, show w.heap[b]? = _ from h], by simp [World.frozen?, show w.heap[b]? = _ from h], by simp [World.frozen?, show w.heap[b]? = _ from h]⟩
theorem grown_alloc {w w' : World} {r : Option Nat} (h : w.grownBy w' r) (o : Obj) : w.grownBy (w'.alloc o) r := grownBy_step h (World.grownBy_alloc w' o none) (.inr (.inl rfl))
theorem grown_new {w w' : World} {r : Option Nat} (h : w.grownBy w' r) {p : Addr} (hp : w.heap.size ≤ p.block) (v : Value) : w.grownBy (w'.setCell p v) r :=
  grownBy_step (s := some p.block) h ⟨rfl, rfl, rfl, by simp [World.setCell], fun k _ hk => Below.heap_setCell w' _ v k (by intro e; exact hk (by rw [e]))⟩ (.inr (.inr ⟨_, rfl, hp⟩))
theorem grown_same {w w' w2 : World} {r : Option Nat} (h : w.grownBy w' r) (k : w'.grownBy w2 r) : w.grownBy w2 r := grownBy_step h k (.inl rfl)

theorem Rdr.far {w : World} {g : Nat} {l : List UInt8} (h : Rdr w g l) {b o : Nat} {v : Value} (hp : g ≠ b) : Rdr (w.setCell ⟨b, o, none⟩ v) g l := (Below.heap_setCell w _ v g hp).trans h
theorem field_e9 (g : Nat) (l : List UInt8) (w : World) (hl : l.length ≤ 9223372036854775807) (hx : Rdr w g l) (hr : M.rd l = none) :
    Calls Try.prog 43 #[.pointer (some ⟨g, 0, none⟩)] w fun e w' => e = pan 9 ∧ w.grownBy w' (some g) := by
  go_enter Try.func43, Try.ntmps43
  go_wp2_with fail
  refine (num_none g l _ hl (hx.grown (World.grownBy_alloc w _ none) (by simp)) hr).mono ?_
  rintro e w' ⟨rfl, rfl⟩
  go_wp2
  exact ⟨rfl, rfl, World.grownBy_alloc _ _ _⟩

set_option maxHeartbeats 1000000 in
theorem field_bad (g : Nat) (l : List UInt8) (w : World) (hl : l.length ≤ 9223372036854775807) (hx : Rdr w g l) (k a : Nat) (K : Int) (hK : K = (k : Int)) (hr : M.rd l = some (k, a)) (hb : K / 8 < 1 ∨ 536870911 < K / 8) :
    Calls Try.prog 43 #[.pointer (some ⟨g, 0, none⟩)] w fun e w' => e = pan 10 ∧ w.grownBy w' (some g) := by
  have hg0 := hx.lt
  have hK0 : 0 ≤ K := by omega
  have hK1 : K ≤ 18446744073709551615 := by have := (M.rd_bound hr).2.2.2; omega
  have hla : (l.drop a).length ≤ 9223372036854775807 := by rw [List.length_drop]; omega
  have hnum := fun W h => num_keep g l W hl h k a hr
  rw [← hK] at hnum
  have Hnum := Lib.hid hnum
  clear hnum hr hK hl
  go_enter Try.func43, Try.ntmps43
  go_wp2_with fail
  refine (Hnum.out _ (hx.grown (World.grownBy_alloc w _ none) (by simp))).mono ?_
  rintro e w1 ⟨rfl, hx1, hg1⟩
  have Hg1 := Lib.hid (grown_same (World.grownBy_alloc w _ _) hg1)
  clear hg1 hx1 hx
  rcases hb with hb | hb
  · go_wp2
    exact ⟨rfl, rfl, Hg1.out⟩
  · have hb1 : 1 ≤ K / 8 := by omega
    go_wp2
    exact ⟨rfl, rfl, Hg1.out⟩

set_option maxHeartbeats 1000000 in
theorem field_wire (g : Nat) (l : List UInt8) (w : World) (hl : l.length ≤ 9223372036854775807) (hx : Rdr w g l) (k a : Nat) (K : Int) (hK : K = (k : Int)) (hr : M.rd l = some (k, a)) (h1 : 1 ≤ K / 8) (h2 : K / 8 ≤ 536870911) (h8 : K % 8 = 3 ∨ K % 8 = 4 ∨ K % 8 = 6 ∨ K % 8 = 7) :
    Calls Try.prog 43 #[.pointer (some ⟨g, 0, none⟩)] w fun e w' => e = pan 10 ∧ w.grownBy w' (some g) := by
  have hg0 := hx.lt
  have hK0 : 0 ≤ K := by omega
  have hK1 : K ≤ 18446744073709551615 := by have := (M.rd_bound hr).2.2.2; omega
  have hla : (l.drop a).length ≤ 9223372036854775807 := by rw [List.length_drop]; omega
  have hnum := fun W h => num_keep g l W hl h k a hr
  rw [← hK] at hnum
  have Hnum := Lib.hid hnum
  clear hnum hr hK hl
  go_enter Try.func43, Try.ntmps43
  go_wp2_with fail
  refine (Hnum.out _ (hx.grown (World.grownBy_alloc w _ none) (by simp))).mono ?_
  rintro e w1 ⟨rfl, hx1, hg1⟩
  have Hg1 := Lib.hid (grown_same (World.grownBy_alloc w _ _) hg1)
  clear hg1 hx1 hx
  rcases h8 with h8 | h8 | h8 | h8
  all_goals
    go_wp2
    exact ⟨rfl, rfl, grown_alloc Hg1.out _⟩

set_option maxHeartbeats 1000000 in
theorem field_ok0 (g : Nat) (l : List UInt8) (w : World) (hl : l.length ≤ 9223372036854775807) (hx : Rdr w g l) (k a : Nat) (K : Int) (hK : K = (k : Int)) (hr : M.rd l = some (k, a)) (h1 : 1 ≤ K / 8) (h2 : K / 8 ≤ 536870911) (h8 : K % 8 = 0) (n b : Nat) (hr2 : M.rd (l.drop a) = some (n, b)) :
    Calls Try.prog 43 #[.pointer (some ⟨g, 0, none⟩)] w fun e w' => e = .returned (.agg (fcells (K / 8) 0 n [])) ∧ Rdr w' g ((l.drop a).drop b) ∧ w.grownBy w' (some g) := by
  have hg0 := hx.lt
  have hK0 : 0 ≤ K := by omega
  have hK1 : K ≤ 18446744073709551615 := by have := (M.rd_bound hr).2.2.2; omega
  have hla : (l.drop a).length ≤ 9223372036854775807 := by rw [List.length_drop]; omega
  have hnum := fun W h => num_keep g l W hl h k a hr
  rw [← hK] at hnum
  have Hnum := Lib.hid hnum
  clear hnum hr hK hl
  go_enter Try.func43, Try.ntmps43
  go_wp2_with fail
  refine (Hnum.out _ (hx.grown (World.grownBy_alloc w _ none) (by simp))).mono ?_
  rintro e w1 ⟨rfl, hx1, hg1⟩
  have hB2 : Blk4 w1 w.heap.size (.int .i64 0) (.int .u8 0) (.int .u64 0) (.string ⟨#[]⟩) := Blk4.keep (blk_new w _) hg1 (by omega)
  have hG1 := grown_same (World.grownBy_alloc w _ _) hg1
  have hs1 : w.heap.size < w1.heap.size := by have := hg1.size; simp at this; omega
  have HB2 := Lib.hid hB2
  have HG1 := Lib.hid hG1
  have Hx1 := Lib.hid hx1
  clear hx hx1 hg1 hB2 hG1
  go_wp2_with fail
  refine (num_keep g _ _ hla (Hx1.out.grown (World.grownBy_alloc w1 _ none) (by simp)) n b hr2).mono ?_
  rintro e w2 ⟨rfl, hx2, hg2⟩
  have hA := Blk4.keep (blk_new w1 _) hg2 (by omega)
  have hB := Blk4.keep (HB2.out.alloc _) hg2 (by omega)
  obtain ⟨⟨p0, p1, p2, p3⟩, f0, f1, f2, f3⟩ := hA.facts
  obtain ⟨⟨r0, r1, r2, r3⟩, s0, s1, s2, s3⟩ := hB.facts
  have hs2 : w1.heap.size < w2.heap.size := by have := hg2.size; simp at this; omega
  have HG2 := Lib.hid (grown_same (grown_alloc HG1.out _) hg2)
  have Hx2 := Lib.hid hx2
  clear hg2 hx2 hA hB HB2 HG1 Hx1 Hnum
  go_wp2
  have hne : ¬ w1.heap.size = w.heap.size := by omega
  have hne' : ¬ w.heap.size = w1.heap.size := by omega
  refine bodyPost_ret (v := .agg (fcells (K / 8) 0 n [])) (by simp [results, Try.results43, go_sem, hne, hne', r0, r1, r2, r3]) rfl ⟨rfl, ?_, ?_⟩
  · exact (((((Hx2.out.far (by omega)).far (by omega)).far (by omega)).far (by omega)).far (by omega))
  · exact grown_new (grown_new (grown_new (grown_new (grown_new HG2.out (by exact Nat.le_of_lt hs1) _) (Nat.le_refl _) _) (Nat.le_refl _) _) (Nat.le_refl _) _) (Nat.le_refl _) _

set_option maxHeartbeats 1000000 in
theorem field_no0 (g : Nat) (l : List UInt8) (w : World) (hl : l.length ≤ 9223372036854775807) (hx : Rdr w g l) (k a : Nat) (K : Int) (hK : K = (k : Int)) (hr : M.rd l = some (k, a)) (h1 : 1 ≤ K / 8) (h2 : K / 8 ≤ 536870911) (h8 : K % 8 = 0) (hr2 : M.rd (l.drop a) = none) :
    Calls Try.prog 43 #[.pointer (some ⟨g, 0, none⟩)] w fun e w' => e = pan 9 ∧ w.grownBy w' (some g) := by
  have hg0 := hx.lt
  have hK0 : 0 ≤ K := by omega
  have hK1 : K ≤ 18446744073709551615 := by have := (M.rd_bound hr).2.2.2; omega
  have hla : (l.drop a).length ≤ 9223372036854775807 := by rw [List.length_drop]; omega
  have hnum := fun W h => num_keep g l W hl h k a hr
  rw [← hK] at hnum
  have Hnum := Lib.hid hnum
  clear hnum hr hK hl
  go_enter Try.func43, Try.ntmps43
  go_wp2_with fail
  refine (Hnum.out _ (hx.grown (World.grownBy_alloc w _ none) (by simp))).mono ?_
  rintro e w1 ⟨rfl, hx1, hg1⟩
  have hB2 : Blk4 w1 w.heap.size (.int .i64 0) (.int .u8 0) (.int .u64 0) (.string ⟨#[]⟩) := Blk4.keep (blk_new w _) hg1 (by omega)
  have hG1 := grown_same (World.grownBy_alloc w _ _) hg1
  have hs1 : w.heap.size < w1.heap.size := by have := hg1.size; simp at this; omega
  have HB2 := Lib.hid hB2
  have HG1 := Lib.hid hG1
  have Hx1 := Lib.hid hx1
  clear hx hx1 hg1 hB2 hG1
  go_wp2_with fail
  refine (num_none g _ _ hla (Hx1.out.grown (World.grownBy_alloc w1 _ none) (by simp)) hr2).mono ?_
  rintro e w2 ⟨rfl, rfl⟩
  have HG2 := Lib.hid (grown_alloc HG1.out (.cells (fcells (K / 8) 0 0 []) 39))
  go_wp2
  exact ⟨rfl, rfl, HG2.out⟩

set_option maxHeartbeats 1000000 in
theorem field_ok1 (g : Nat) (l : List UInt8) (w : World) (hl : l.length ≤ 9223372036854775807) (hx : Rdr w g l) (k a : Nat) (K : Int) (hK : K = (k : Int)) (hr : M.rd l = some (k, a)) (h1 : 1 ≤ K / 8) (h2 : K / 8 ≤ 536870911) (h8 : K % 8 = 1) (hz : 8 ≤ (l.drop a).length) :
    Calls Try.prog 43 #[.pointer (some ⟨g, 0, none⟩)] w fun e w' => e = .returned (.agg (fcells (K / 8) 1 (M.unle ((l.drop a).take 8) : Int) [])) ∧ Rdr w' g ((l.drop a).drop 8) ∧ w.grownBy w' (some g) := by
  have hg0 := hx.lt
  have hK0 : 0 ≤ K := by omega
  have hK1 : K ≤ 18446744073709551615 := by have := (M.rd_bound hr).2.2.2; omega
  have hla : (l.drop a).length ≤ 9223372036854775807 := by rw [List.length_drop]; omega
  have hnum := fun W h => num_keep g l W hl h k a hr
  rw [← hK] at hnum
  have Hnum := Lib.hid hnum
  clear hnum hr hK hl
  have hfx : ∀ W, Rdr W g (l.drop a) → Calls Try.prog 47 #[.pointer (some ⟨g, 0, none⟩), .int .u64 8] W fun e w' => e = .returned (.int .u64 (M.unle ((l.drop a).take 8) : Int)) ∧ Rdr w' g ((l.drop a).drop 8) ∧ W.grownBy w' (some g) :=
    fun W h => fixed_yes g (l.drop a) 8 W hla h (by omega) hz
  obtain ⟨un, hun⟩ : ∃ un : Nat, un = M.unle ((l.drop a).take 8) := ⟨_, rfl⟩
  rw [← hun] at hfx ⊢
  have Hfx := Lib.hid hfx
  clear hfx hun hz
  go_enter Try.func43, Try.ntmps43
  go_wp2_with fail
  refine (Hnum.out _ (hx.grown (World.grownBy_alloc w _ none) (by simp))).mono ?_
  rintro e w1 ⟨rfl, hx1, hg1⟩
  have hB2 : Blk4 w1 w.heap.size (.int .i64 0) (.int .u8 0) (.int .u64 0) (.string ⟨#[]⟩) := Blk4.keep (blk_new w _) hg1 (by omega)
  have hG1 := grown_same (World.grownBy_alloc w _ _) hg1
  have hs1 : w.heap.size < w1.heap.size := by have := hg1.size; simp at this; omega
  have HB2 := Lib.hid hB2
  have HG1 := Lib.hid hG1
  have Hx1 := Lib.hid hx1
  clear hx hx1 hg1 hB2 hG1
  go_wp2_with fail
  refine (Hfx.out _ (Hx1.out.grown (World.grownBy_alloc w1 _ none) (by simp))).mono ?_
  rintro e w2 ⟨rfl, hx2, hg2⟩
  have hA := Blk4.keep (blk_new w1 _) hg2 (by omega)
  have hB := Blk4.keep (HB2.out.alloc _) hg2 (by omega)
  obtain ⟨⟨p0, p1, p2, p3⟩, f0, f1, f2, f3⟩ := hA.facts
  obtain ⟨⟨r0, r1, r2, r3⟩, s0, s1, s2, s3⟩ := hB.facts
  have hs2 : w1.heap.size < w2.heap.size := by have := hg2.size; simp at this; omega
  have HG2 := Lib.hid (grown_same (grown_alloc HG1.out _) hg2)
  have Hx2 := Lib.hid hx2
  clear hg2 hx2 hA hB HB2 HG1 Hx1 Hnum
  go_wp2
  have hne : ¬ w1.heap.size = w.heap.size := by omega
  have hne' : ¬ w.heap.size = w1.heap.size := by omega
  refine bodyPost_ret (v := .agg (fcells (K / 8) 1 un [])) (by simp [results, Try.results43, go_sem, hne, hne', r0, r1, r2, r3]) rfl ⟨rfl, ?_, ?_⟩
  · exact (((((Hx2.out.far (by omega)).far (by omega)).far (by omega)).far (by omega)).far (by omega))
  · exact grown_new (grown_new (grown_new (grown_new (grown_new HG2.out (by exact Nat.le_of_lt hs1) _) (Nat.le_refl _) _) (Nat.le_refl _) _) (Nat.le_refl _) _) (Nat.le_refl _) _

set_option maxHeartbeats 1000000 in
theorem field_no1 (g : Nat) (l : List UInt8) (w : World) (hl : l.length ≤ 9223372036854775807) (hx : Rdr w g l) (k a : Nat) (K : Int) (hK : K = (k : Int)) (hr : M.rd l = some (k, a)) (h1 : 1 ≤ K / 8) (h2 : K / 8 ≤ 536870911) (h8 : K % 8 = 1) (hz : (l.drop a).length < 8) :
    Calls Try.prog 43 #[.pointer (some ⟨g, 0, none⟩)] w fun e w' => e = pan 10 ∧ w.grownBy w' (some g) := by
  have hg0 := hx.lt
  have hK0 : 0 ≤ K := by omega
  have hK1 : K ≤ 18446744073709551615 := by have := (M.rd_bound hr).2.2.2; omega
  have hla : (l.drop a).length ≤ 9223372036854775807 := by rw [List.length_drop]; omega
  have hnum := fun W h => num_keep g l W hl h k a hr
  rw [← hK] at hnum
  have Hnum := Lib.hid hnum
  clear hnum hr hK hl
  go_enter Try.func43, Try.ntmps43
  go_wp2_with fail
  refine (Hnum.out _ (hx.grown (World.grownBy_alloc w _ none) (by simp))).mono ?_
  rintro e w1 ⟨rfl, hx1, hg1⟩
  have hB2 : Blk4 w1 w.heap.size (.int .i64 0) (.int .u8 0) (.int .u64 0) (.string ⟨#[]⟩) := Blk4.keep (blk_new w _) hg1 (by omega)
  have hG1 := grown_same (World.grownBy_alloc w _ _) hg1
  have hs1 : w.heap.size < w1.heap.size := by have := hg1.size; simp at this; omega
  have HB2 := Lib.hid hB2
  have HG1 := Lib.hid hG1
  have Hx1 := Lib.hid hx1
  clear hx hx1 hg1 hB2 hG1
  go_wp2_with fail
  refine (fixed_no g _ 8 _ hla (Hx1.out.grown (World.grownBy_alloc w1 _ none) (by simp)) (by omega)).mono ?_
  rintro e w2 ⟨rfl, rfl⟩
  have HG2 := Lib.hid (grown_alloc HG1.out (.cells (fcells (K / 8) 1 0 []) 39))
  go_wp2
  exact ⟨rfl, rfl, HG2.out⟩

set_option maxHeartbeats 1000000 in
theorem field_ok5 (g : Nat) (l : List UInt8) (w : World) (hl : l.length ≤ 9223372036854775807) (hx : Rdr w g l) (k a : Nat) (K : Int) (hK : K = (k : Int)) (hr : M.rd l = some (k, a)) (h1 : 1 ≤ K / 8) (h2 : K / 8 ≤ 536870911) (h8 : K % 8 = 5) (hz : 4 ≤ (l.drop a).length) :
    Calls Try.prog 43 #[.pointer (some ⟨g, 0, none⟩)] w fun e w' => e = .returned (.agg (fcells (K / 8) 5 (M.unle ((l.drop a).take 4) : Int) [])) ∧ Rdr w' g ((l.drop a).drop 4) ∧ w.grownBy w' (some g) := by
  have hg0 := hx.lt
  have hK0 : 0 ≤ K := by omega
  have hK1 : K ≤ 18446744073709551615 := by have := (M.rd_bound hr).2.2.2; omega
  have hla : (l.drop a).length ≤ 9223372036854775807 := by rw [List.length_drop]; omega
  have hnum := fun W h => num_keep g l W hl h k a hr
  rw [← hK] at hnum
  have Hnum := Lib.hid hnum
  clear hnum hr hK hl
  have hfx : ∀ W, Rdr W g (l.drop a) → Calls Try.prog 47 #[.pointer (some ⟨g, 0, none⟩), .int .u64 4] W fun e w' => e = .returned (.int .u64 (M.unle ((l.drop a).take 4) : Int)) ∧ Rdr w' g ((l.drop a).drop 4) ∧ W.grownBy w' (some g) :=
    fun W h => fixed_yes g (l.drop a) 4 W hla h (by omega) hz
  obtain ⟨un, hun⟩ : ∃ un : Nat, un = M.unle ((l.drop a).take 4) := ⟨_, rfl⟩
  rw [← hun] at hfx ⊢
  have Hfx := Lib.hid hfx
  clear hfx hun hz
  go_enter Try.func43, Try.ntmps43
  go_wp2_with fail
  refine (Hnum.out _ (hx.grown (World.grownBy_alloc w _ none) (by simp))).mono ?_
  rintro e w1 ⟨rfl, hx1, hg1⟩
  have hB2 : Blk4 w1 w.heap.size (.int .i64 0) (.int .u8 0) (.int .u64 0) (.string ⟨#[]⟩) := Blk4.keep (blk_new w _) hg1 (by omega)
  have hG1 := grown_same (World.grownBy_alloc w _ _) hg1
  have hs1 : w.heap.size < w1.heap.size := by have := hg1.size; simp at this; omega
  have HB2 := Lib.hid hB2
  have HG1 := Lib.hid hG1
  have Hx1 := Lib.hid hx1
  clear hx hx1 hg1 hB2 hG1
  go_wp2_with fail
  refine (Hfx.out _ (Hx1.out.grown (World.grownBy_alloc w1 _ none) (by simp))).mono ?_
  rintro e w2 ⟨rfl, hx2, hg2⟩
  have hA := Blk4.keep (blk_new w1 _) hg2 (by omega)
  have hB := Blk4.keep (HB2.out.alloc _) hg2 (by omega)
  obtain ⟨⟨p0, p1, p2, p3⟩, f0, f1, f2, f3⟩ := hA.facts
  obtain ⟨⟨r0, r1, r2, r3⟩, s0, s1, s2, s3⟩ := hB.facts
  have hs2 : w1.heap.size < w2.heap.size := by have := hg2.size; simp at this; omega
  have HG2 := Lib.hid (grown_same (grown_alloc HG1.out _) hg2)
  have Hx2 := Lib.hid hx2
  clear hg2 hx2 hA hB HB2 HG1 Hx1 Hnum
  go_wp2
  have hne : ¬ w1.heap.size = w.heap.size := by omega
  have hne' : ¬ w.heap.size = w1.heap.size := by omega
  refine bodyPost_ret (v := .agg (fcells (K / 8) 5 un [])) (by simp [results, Try.results43, go_sem, hne, hne', r0, r1, r2, r3]) rfl ⟨rfl, ?_, ?_⟩
  · exact (((((Hx2.out.far (by omega)).far (by omega)).far (by omega)).far (by omega)).far (by omega))
  · exact grown_new (grown_new (grown_new (grown_new (grown_new HG2.out (by exact Nat.le_of_lt hs1) _) (Nat.le_refl _) _) (Nat.le_refl _) _) (Nat.le_refl _) _) (Nat.le_refl _) _

set_option maxHeartbeats 1000000 in
theorem field_no5 (g : Nat) (l : List UInt8) (w : World) (hl : l.length ≤ 9223372036854775807) (hx : Rdr w g l) (k a : Nat) (K : Int) (hK : K = (k : Int)) (hr : M.rd l = some (k, a)) (h1 : 1 ≤ K / 8) (h2 : K / 8 ≤ 536870911) (h8 : K % 8 = 5) (hz : (l.drop a).length < 4) :
    Calls Try.prog 43 #[.pointer (some ⟨g, 0, none⟩)] w fun e w' => e = pan 10 ∧ w.grownBy w' (some g) := by
  have hg0 := hx.lt
  have hK0 : 0 ≤ K := by omega
  have hK1 : K ≤ 18446744073709551615 := by have := (M.rd_bound hr).2.2.2; omega
  have hla : (l.drop a).length ≤ 9223372036854775807 := by rw [List.length_drop]; omega
  have hnum := fun W h => num_keep g l W hl h k a hr
  rw [← hK] at hnum
  have Hnum := Lib.hid hnum
  clear hnum hr hK hl
  go_enter Try.func43, Try.ntmps43
  go_wp2_with fail
  refine (Hnum.out _ (hx.grown (World.grownBy_alloc w _ none) (by simp))).mono ?_
  rintro e w1 ⟨rfl, hx1, hg1⟩
  have hB2 : Blk4 w1 w.heap.size (.int .i64 0) (.int .u8 0) (.int .u64 0) (.string ⟨#[]⟩) := Blk4.keep (blk_new w _) hg1 (by omega)
  have hG1 := grown_same (World.grownBy_alloc w _ _) hg1
  have hs1 : w.heap.size < w1.heap.size := by have := hg1.size; simp at this; omega
  have HB2 := Lib.hid hB2
  have HG1 := Lib.hid hG1
  have Hx1 := Lib.hid hx1
  clear hx hx1 hg1 hB2 hG1
  go_wp2_with fail
  refine (fixed_no g _ 4 _ hla (Hx1.out.grown (World.grownBy_alloc w1 _ none) (by simp)) (by omega)).mono ?_
  rintro e w2 ⟨rfl, rfl⟩
  have HG2 := Lib.hid (grown_alloc HG1.out (.cells (fcells (K / 8) 5 0 []) 39))
  go_wp2
  exact ⟨rfl, rfl, HG2.out⟩

set_option maxHeartbeats 1000000 in
theorem field_ok2 (g : Nat) (l : List UInt8) (w : World) (hl : l.length ≤ 9223372036854775807) (hx : Rdr w g l) (k a : Nat) (K : Int) (hK : K = (k : Int)) (hr : M.rd l = some (k, a)) (h1 : 1 ≤ K / 8) (h2 : K / 8 ≤ 536870911) (h8 : K % 8 = 2) (m b : Nat) (hr2 : M.rd (l.drop a) = some (m, b)) (hm : m ≤ ((l.drop a).drop b).length) :
    Calls Try.prog 43 #[.pointer (some ⟨g, 0, none⟩)] w fun e w' => e = .returned (.agg (fcells (K / 8) 2 0 (((l.drop a).drop b).take m))) ∧ Rdr w' g (((l.drop a).drop b).drop m) ∧ w.grownBy w' (some g) := by
  have hg0 := hx.lt
  have hK0 : 0 ≤ K := by omega
  have hK1 : K ≤ 18446744073709551615 := by have := (M.rd_bound hr).2.2.2; omega
  have hla : (l.drop a).length ≤ 9223372036854775807 := by rw [List.length_drop]; omega
  have hnum := fun W h => num_keep g l W hl h k a hr
  rw [← hK] at hnum
  have Hnum := Lib.hid hnum
  clear hnum hr hK hl
  go_enter Try.func43, Try.ntmps43
  go_wp2_with fail
  refine (Hnum.out _ (hx.grown (World.grownBy_alloc w _ none) (by simp))).mono ?_
  rintro e w1 ⟨rfl, hx1, hg1⟩
  have hB2 : Blk4 w1 w.heap.size (.int .i64 0) (.int .u8 0) (.int .u64 0) (.string ⟨#[]⟩) := Blk4.keep (blk_new w _) hg1 (by omega)
  have hG1 := grown_same (World.grownBy_alloc w _ _) hg1
  have hs1 : w.heap.size < w1.heap.size := by have := hg1.size; simp at this; omega
  have HB2 := Lib.hid hB2
  have HG1 := Lib.hid hG1
  have Hx1 := Lib.hid hx1
  clear hx hx1 hg1 hB2 hG1
  have hlb : ((l.drop a).drop b).length ≤ 9223372036854775807 := by rw [List.length_drop]; omega
  go_wp2_with fail
  refine (num_keep g _ _ hla (Hx1.out.grown (World.grownBy_alloc w1 _ none) (by simp)) m b hr2).mono ?_
  rintro e w2 ⟨rfl, hx2, hg2⟩
  have hA1 := Blk4.keep (blk_new w1 _) hg2 (by omega)
  have hB1 := Blk4.keep (HB2.out.alloc _) hg2 (by omega)
  have hs2 : w1.heap.size < w2.heap.size := by have := hg2.size; simp at this; omega
  have HA1 := Lib.hid hA1
  have HB1 := Lib.hid hB1
  have Hx2' := Lib.hid hx2
  have HG2' := Lib.hid (grown_same (grown_alloc HG1.out _) hg2)
  clear hg2 hx2 hA1 hB1 HB2 HG1 Hx1 Hnum
  go_wp2_with fail
  refine (take_keep g _ (m : Int) _ hlb Hx2'.out (by omega) (by omega)).mono ?_
  rw [Int.toNat_natCast]
  rintro e w3 ⟨rfl, hx3, hg3⟩
  have hA := HA1.out.keep hg3 (by omega)
  have hB := HB1.out.keep hg3 (by omega)
  obtain ⟨⟨p0, p1, p2, p3⟩, f0, f1, f2, f3⟩ := hA.facts
  obtain ⟨⟨r0, r1, r2, r3⟩, s0, s1, s2, s3⟩ := hB.facts
  have hs3 : w1.heap.size < w3.heap.size := by have := hg3.size; omega
  have HG2 := Lib.hid (grown_same HG2'.out hg3)
  have Hx2 := Lib.hid hx3
  clear hg3 hx3 hA hB HA1 HB1 HG2' Hx2'
  go_wp2
  have hne : ¬ w1.heap.size = w.heap.size := by omega
  have hne' : ¬ w.heap.size = w1.heap.size := by omega
  refine bodyPost_ret (v := .agg (fcells (K / 8) 2 0 (((l.drop a).drop b).take m))) (by simp [results, Try.results43, go_sem, hne, hne', r0, r1, r2, r3]) rfl ⟨rfl, ?_, ?_⟩
  · exact (((((Hx2.out.far (by omega)).far (by omega)).far (by omega)).far (by omega)).far (by omega))
  · exact grown_new (grown_new (grown_new (grown_new (grown_new HG2.out (by exact Nat.le_of_lt hs1) _) (Nat.le_refl _) _) (Nat.le_refl _) _) (Nat.le_refl _) _) (Nat.le_refl _) _

set_option maxHeartbeats 1000000 in
theorem field_no2 (g : Nat) (l : List UInt8) (w : World) (hl : l.length ≤ 9223372036854775807) (hx : Rdr w g l) (k a : Nat) (K : Int) (hK : K = (k : Int)) (hr : M.rd l = some (k, a)) (h1 : 1 ≤ K / 8) (h2 : K / 8 ≤ 536870911) (h8 : K % 8 = 2) (hr2 : M.rd (l.drop a) = none) :
    Calls Try.prog 43 #[.pointer (some ⟨g, 0, none⟩)] w fun e w' => e = pan 9 ∧ w.grownBy w' (some g) := by
  have hg0 := hx.lt
  have hK0 : 0 ≤ K := by omega
  have hK1 : K ≤ 18446744073709551615 := by have := (M.rd_bound hr).2.2.2; omega
  have hla : (l.drop a).length ≤ 9223372036854775807 := by rw [List.length_drop]; omega
  have hnum := fun W h => num_keep g l W hl h k a hr
  rw [← hK] at hnum
  have Hnum := Lib.hid hnum
  clear hnum hr hK hl
  go_enter Try.func43, Try.ntmps43
  go_wp2_with fail
  refine (Hnum.out _ (hx.grown (World.grownBy_alloc w _ none) (by simp))).mono ?_
  rintro e w1 ⟨rfl, hx1, hg1⟩
  have hB2 : Blk4 w1 w.heap.size (.int .i64 0) (.int .u8 0) (.int .u64 0) (.string ⟨#[]⟩) := Blk4.keep (blk_new w _) hg1 (by omega)
  have hG1 := grown_same (World.grownBy_alloc w _ _) hg1
  have hs1 : w.heap.size < w1.heap.size := by have := hg1.size; simp at this; omega
  have HB2 := Lib.hid hB2
  have HG1 := Lib.hid hG1
  have Hx1 := Lib.hid hx1
  clear hx hx1 hg1 hB2 hG1
  go_wp2_with fail
  refine (num_none g _ _ hla (Hx1.out.grown (World.grownBy_alloc w1 _ none) (by simp)) hr2).mono ?_
  rintro e w2 ⟨rfl, rfl⟩
  have HG2 := Lib.hid (grown_alloc HG1.out (.cells (fcells (K / 8) 2 0 []) 39))
  go_wp2
  exact ⟨rfl, rfl, HG2.out⟩

set_option maxHeartbeats 1000000 in
theorem field_long2 (g : Nat) (l : List UInt8) (w : World) (hl : l.length ≤ 9223372036854775807) (hx : Rdr w g l) (k a : Nat) (K : Int) (hK : K = (k : Int)) (hr : M.rd l = some (k, a)) (h1 : 1 ≤ K / 8) (h2 : K / 8 ≤ 536870911) (h8 : K % 8 = 2) (m b : Nat) (hr2 : M.rd (l.drop a) = some (m, b)) (hm : ((l.drop a).drop b).length < m) :
    Calls Try.prog 43 #[.pointer (some ⟨g, 0, none⟩)] w fun e w' => e = pan 10 ∧ w.grownBy w' (some g) := by
  have hg0 := hx.lt
  have hK0 : 0 ≤ K := by omega
  have hK1 : K ≤ 18446744073709551615 := by have := (M.rd_bound hr).2.2.2; omega
  have hla : (l.drop a).length ≤ 9223372036854775807 := by rw [List.length_drop]; omega
  have hnum := fun W h => num_keep g l W hl h k a hr
  rw [← hK] at hnum
  have Hnum := Lib.hid hnum
  clear hnum hr hK hl
  go_enter Try.func43, Try.ntmps43
  go_wp2_with fail
  refine (Hnum.out _ (hx.grown (World.grownBy_alloc w _ none) (by simp))).mono ?_
  rintro e w1 ⟨rfl, hx1, hg1⟩
  have hB2 : Blk4 w1 w.heap.size (.int .i64 0) (.int .u8 0) (.int .u64 0) (.string ⟨#[]⟩) := Blk4.keep (blk_new w _) hg1 (by omega)
  have hG1 := grown_same (World.grownBy_alloc w _ _) hg1
  have hs1 : w.heap.size < w1.heap.size := by have := hg1.size; simp at this; omega
  have HB2 := Lib.hid hB2
  have HG1 := Lib.hid hG1
  have Hx1 := Lib.hid hx1
  clear hx hx1 hg1 hB2 hG1
  have hlb : ((l.drop a).drop b).length ≤ 9223372036854775807 := by rw [List.length_drop]; omega
  go_wp2_with fail
  refine (num_keep g _ _ hla (Hx1.out.grown (World.grownBy_alloc w1 _ none) (by simp)) m b hr2).mono ?_
  rintro e w2 ⟨rfl, hx2, hg2⟩
  have Hx2 := Lib.hid hx2
  have HG2 := Lib.hid (grown_same (grown_alloc HG1.out _) hg2)
  clear hx2 hg2
  go_wp2_with fail
  refine (take_no g _ (m : Int) _ hlb Hx2.out (by omega)).mono ?_
  rintro e w3 ⟨rfl, rfl⟩
  go_wp2
  exact ⟨rfl, rfl, HG2.out⟩
end Go.Proofs.Ytnnnnlcpmocnfaa
