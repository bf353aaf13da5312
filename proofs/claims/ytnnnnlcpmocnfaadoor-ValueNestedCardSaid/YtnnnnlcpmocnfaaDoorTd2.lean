/- MESSAGES OF VALUES: which kind a message tells, WALKED. -/
import Derived.Test.YtnnnnlcpmocnfaaDoorTd1
import Derived.Maps.RangeWalk
import Derived.BigQuiet
import Derived.Deep.QuietTactic
import Derived.RegionTactic
import Derived.ChangeAlike
import Derived.Outline
import Derived.WalkLawsBesides
import Derived.Deep.RegionLaw
import Derived.Deep.RegionHeld3
namespace Go.Proofs.YtnnnnlcpmocnfaaDoor
open Go.RowKit
set_option linter.unusedVariables false
set_option linter.unusedSimpArgs false
attribute [local go_sem] run_store_float

open Go.ChangeMaps (setBlock)
theorem blk4_set {W : World} {g : Nat} {x0 x1 x2 x3 : Value} (h : W.heap[g]? = some (.cells #[x0, x1, x2, x3] 69 (0, 0))) (v : Value) :
    (W.setCell ⟨g, 0, none⟩ v).heap[g]? = some (.cells #[v, x1, x2, x3] 69 (0, 0)) ∧ (W.setCell ⟨g, 1, none⟩ v).heap[g]? = some (.cells #[x0, v, x2, x3] 69 (0, 0)) ∧ (W.setCell ⟨g, 2, none⟩ v).heap[g]? = some (.cells #[x0, x1, v, x3] 69 (0, 0)) ∧ (W.setCell ⟨g, 3, none⟩ v).heap[g]? = some (.cells #[x0, x1, x2, v] 69 (0, 0)) := by
  have hh : ∀ i, (W.setCell ⟨g, i, none⟩ v).heap[g]? = some (.cells (#[x0, x1, x2, x3].setIfInBounds i v) 69 (0, 0)) := fun i => by
    rw [setCell_eq_setRow W g i _ 69 (0, 0) v h]; exact setRow_heap W g _ _ 69 (0, 0) h
  exact ⟨hh 0, hh 1, hh 2, hh 3⟩
theorem blk4_facts {w : World} {b : Nat} {x0 x1 x2 x3 : Value} (h : w.heap[b]? = some (.cells #[x0, x1, x2, x3] 69 (0, 0))) :
    (w.cell? ⟨b, 0, none⟩ = some x0 ∧ w.cell? ⟨b, 1, none⟩ = some x1 ∧ w.cell? ⟨b, 2, none⟩ = some x2 ∧ w.cell? ⟨b, 3, none⟩ = some x3) ∧
    w.frozen? ⟨b, 0, none⟩ = false ∧ w.frozen? ⟨b, 1, none⟩ = false ∧ w.frozen? ⟨b, 2, none⟩ = false ∧ w.frozen? ⟨b, 3, none⟩ = false :=
  ⟨box4 h, frozen_of_row w b 0 _ 69 h, frozen_of_row w b 1 _ 69 h, frozen_of_row w b 2 _ 69 h, frozen_of_row w b 3 _ 69 h⟩
theorem store4 {W : World} {g : Nat} {x0 x1 x2 x3 : Value} (h : W.heap[g]? = some (.cells #[x0, x1, x2, x3] 69 (0, 0))) (v0 v1 v2 v3 : Value) :
    (W.cell? ⟨g, 0, none⟩ = some x0 ∧ W.frozen? ⟨g, 0, none⟩ = false) ∧
    ((W.setCell ⟨g, 0, none⟩ v0).cell? ⟨g, 1, none⟩ = some x1 ∧ (W.setCell ⟨g, 0, none⟩ v0).frozen? ⟨g, 1, none⟩ = false) ∧
    (((W.setCell ⟨g, 0, none⟩ v0).setCell ⟨g, 1, none⟩ v1).cell? ⟨g, 2, none⟩ = some x2 ∧ ((W.setCell ⟨g, 0, none⟩ v0).setCell ⟨g, 1, none⟩ v1).frozen? ⟨g, 2, none⟩ = false) ∧
    ((((W.setCell ⟨g, 0, none⟩ v0).setCell ⟨g, 1, none⟩ v1).setCell ⟨g, 2, none⟩ v2).cell? ⟨g, 3, none⟩ = some x3 ∧ (((W.setCell ⟨g, 0, none⟩ v0).setCell ⟨g, 1, none⟩ v1).setCell ⟨g, 2, none⟩ v2).frozen? ⟨g, 3, none⟩ = false) ∧
    ((((W.setCell ⟨g, 0, none⟩ v0).setCell ⟨g, 1, none⟩ v1).setCell ⟨g, 2, none⟩ v2).setCell ⟨g, 3, none⟩ v3).heap[g]? = some (.cells #[v0, v1, v2, v3] 69 (0, 0)) := by
  have h1 := (blk4_set h v0).1
  have h2 := (blk4_set h1 v1).2.1
  have h3 := (blk4_set h2 v2).2.2.1
  have h4 := (blk4_set h3 v3).2.2.2
  exact ⟨⟨(blk4_facts h).1.1, (blk4_facts h).2.1⟩, ⟨(blk4_facts h1).1.2.1, (blk4_facts h1).2.2.1⟩, ⟨(blk4_facts h2).1.2.2.1, (blk4_facts h2).2.2.2.1⟩, ⟨(blk4_facts h3).1.2.2.2, (blk4_facts h3).2.2.2.2⟩, h4⟩

/-- what told answers -/
def toldV (fs : List M.Fd) : Value := .tuple #[.int .u8 (toldOf fs).1, .agg ⟨fc (toldOf fs).2⟩]
theorem m7_uni {i : Nat} {k n b k' n' b' : Int} (h : InM i k' n' b') (h2 : InM i k n b) : n' = n ∧ b' = b := by
  unfold InM at h h2
  rw [m7_list] at h h2
  simp only [List.mem_cons, List.not_mem_nil, or_false, entryL, MapEntry.mk.injEq, Value.int.injEq, Value.agg.injEq, true_and] at h h2
  have e : ∀ x y x' y' : Int, #[Value.int .i64 x, .int .u8 y, .int .u64 0, .string ⟨#[]⟩] = #[Value.int .i64 x', .int .u8 y', .int .u64 0, .string ⟨#[]⟩] → x = x' ∧ y = y' := fun x y x' y' h => by
    simp at h; exact h
  rcases h with ⟨_, h, hi⟩ | ⟨_, h, hi⟩ | ⟨_, h, hi⟩ | ⟨_, h, hi⟩ | ⟨_, h, hi⟩ | ⟨_, h, hi⟩ | ⟨_, h, hi⟩ <;> rcases h2 with ⟨_, h2, hi2⟩ | ⟨_, h2, hi2⟩ | ⟨_, h2, hi2⟩ | ⟨_, h2, hi2⟩ | ⟨_, h2, hi2⟩ | ⟨_, h2, hi2⟩ | ⟨_, h2, hi2⟩ <;>
    first | (exfalso; omega) | (have := e _ _ _ _ h; have := e _ _ _ _ h2; omega)
structure TdInv (w wr : World) (fs : List M.Fd) (x : Int) : Prop where
  b : Below w.heap.size w wr
  z : wr.heap[w.heap.size]? = some (.cells #[.int .i64 0, .int .u8 0, .int .u64 0, .string ⟨#[]⟩] 69 (0, 0))
  m : wr.heap[w.heap.size + 1]? = some (.map m7 7)
  t : toldOf fs = toldOf (fs.take (x + 1).toNat)
structure TdIn (w wr : World) (fs : List M.Fd) (x : Int) (r : Nat) (seen : Array Nat) (c0 : Nat) (f : M.Fd) : Prop where
  inv : TdInv w wr fs x
  it : It wr (w.heap.size + 1) r seen c0
  no : ∀ i k n b, InM i k n b → seen.contains i = true → ¬ (f.num = n ∧ (f.wire : Int) = b)
theorem TdInv.keep {w wr w' : World} {fs : List M.Fd} {x : Int} (h : TdInv w wr fs x) (hb : Below wr.heap.size wr w') : TdInv w w' fs x :=
  ⟨h.b.trans (hb.mono h.b.size), (hb.block _ (Array.getElem?_eq_some_iff.1 h.z).1).trans h.z, (hb.block _ (Array.getElem?_eq_some_iff.1 h.m).1).trans h.m, h.t⟩
theorem grown_below {w w' : World} {r B : Nat} (h : w.grownBy w' (some r)) (hB : B ≤ r) (hw : B ≤ w.heap.size) : Below B w w' :=
  ⟨h.os, h.tape, h.output, h.size, fun j hj => h.block j (by omega) (by intro e; injection e with e; omega)⟩
theorem TdInv.grown {w wr w' : World} {fs : List M.Fd} {x : Int} {r : Nat} (h : TdInv w wr fs x) (hg : wr.grownBy w' (some r)) (hr : w.heap.size + 1 < r) (hlt : r < wr.heap.size) : TdInv w w' fs x := by
  have hs := h.b.size
  refine ⟨h.b.trans (grown_below hg (by omega) (by omega)), ?_, ?_, h.t⟩
  · exact (hg.block _ (Array.getElem?_eq_some_iff.1 h.z).1 (by intro e; injection e with e; omega)).trans h.z
  · exact (hg.block _ (Array.getElem?_eq_some_iff.1 h.m).1 (by intro e; injection e with e; omega)).trans h.m

theorem drewN_heap (w : World) (n : Nat) : (w.drewN n).heap = w.heap := by
  induction n with
  | zero => rfl
  | succ n ih => simp
theorem TdInv.drewN {w wr : World} {fs : List M.Fd} {x : Int} (h : TdInv w wr fs x) (n : Nat) : TdInv w (wr.drewN n) fs x := ⟨below_drewN h.b n, by rw [drewN_heap]; exact h.z, by rw [drewN_heap]; exact h.m, h.t⟩
theorem It.drewN {w : World} {b r : Nat} {seen : Array Nat} {c0 : Nat} (h : It w b r seen c0) (n : Nat) : It (w.drewN n) b r seen c0 := ⟨by rw [drewN_heap]; exact h.m, by rw [drewN_heap]; exact h.i, h.c, h.ne⟩
theorem TdIn.drewN {w wr : World} {fs : List M.Fd} {x : Int} {r : Nat} {seen : Array Nat} {c0 : Nat} {f : M.Fd} (h : TdIn w wr fs x r seen c0 f) (n : Nat) : TdIn w (wr.drewN n) fs x r seen c0 f := ⟨h.inv.drewN n, h.it.drewN n, h.no⟩

set_option maxRecDepth 100000 in
set_option maxHeartbeats 8000000 in
theorem told_any (w : World) (ad : Option Addr) (n cap : Nat) (fs : List M.Fd) (hn : n = fs.length) (hfl : Flds w w.heap.size ad fs) :
    Calls Tryd.prog 99 #[.slice ad n cap] w fun e w' => e = .returned (toldV fs) ∧ Below w.heap.size w w' := by
  have hn63 : n ≤ 9223372036854775807 := by rw [hn]; exact hfl.1
  have Hn := Lib.hid hn
  have Hfl := Lib.hid hfl
  have Hplaces := Lib.hid (fun W => places_any W)
  clear hn hfl
  go_enter Tryd.func99, Tryd.ntmps99
  go_wp2_with (go_at_call 94; refine (Hplaces.out _).mono ?_; rintro e w8 ⟨rfl, rfl⟩)
  go_loopw [5] (fun i wr => ∃ (x : Int), i = .int .i64 x ∧ -1 ≤ x ∧ x < n ∧ Go.RowKit.Hid (TdInv w wr fs x)) (fun i _ => (intOf i + 1).toNat)
  case atStart =>
    refine ⟨(n : Int) - 1, rfl, by omega, by omega, ?_, ?_, ?_, ?_⟩
    · go_grown
    · exact blk_alloc (blk_new w _) _
    · exact blk_at (by simp)
    · rw [show ((n : Int) - 1 + 1).toNat = n by omega, List.take_of_length_le (by have := Hn.out; omega)]
  case round =>
    obtain ⟨x, rfl, hx1, hx2, hinv⟩ := hrel
    by_cases hx0 : 0 ≤ x
    · obtain ⟨j, rfl⟩ := Int.eq_ofNat_of_zero_le hx0
      have hjn : j < n := by omega
      have hne : fs ≠ [] := by rintro rfl; have := Hn.out; simp at this; omega
      obtain ⟨g, off, rfl, hg, hi⟩ := Hfl.out.2 hne
      obtain ⟨f, hf⟩ : ∃ f, fs[j]? = some f := ⟨fs[j]'(by have := Hn.out; omega), by simp⟩
      obtain ⟨a, b, c, l, hfit, q⟩ := hi j f hf
      have Hq := Lib.hid q
      have Hg := Lib.hid hg
      have Hf := Lib.hid hf
      have Hfit := Lib.hid hfit
      have HM := Lib.hid hinv.out.m
      clear q hi hne hg hf hfit
      obtain ⟨r, hr⟩ : ∃ r, r = wr.heap.size := ⟨_, rfl⟩
      have Hr := Lib.hid hr
      go_wp2_with (first | (at_range; refine wp_range7 rfl _ rfl (w.heap.size + 1) rfl HM.out ?_; intro w0 hit0 hw0) | fail)
      rw [← hr] at hit0 ⊢
      go_frame
      have Hlt := Lib.hid (show w.heap.size + 1 < r by rw [Hr.out]; exact (Array.getElem?_eq_some_iff.1 HM.out).1)
      have Hin0 : TdIn w w0 fs j r #[] 7 f := ⟨hinv.out.keep (by rw [hw0]; exact al wr _), hit0, fun i k n b _ h => by simp at h⟩
      clear hit0 hw0 hinv HM hr
      go_loopw [18] (fun _ W => ∃ seen c0, Go.RowKit.Hid (TdIn w W fs j r seen c0 f)) (fun _ W => W.rangeLeft (w.heap.size + 1) r)
      case atStart => exact ⟨_, _, Hin0⟩
      case round =>
        obtain ⟨seen, c0, hin⟩ := hrel
        go_wp2_with (first | (at_next; refine wp_next7 rfl _ rfl (w.heap.size + 1) r seen c0 rfl hin.out.it ?_ ?_) | fail)
        · intro hall
          have hno : kindOf f = 0 := kindOf_none hall hin.out.no
          have hnext : toldOf fs = toldOf (fs.take ((j : Int) - 1 + 1).toNat) := by
            have := hin.out.inv.t
            rw [show ((j : Int) + 1).toNat = j + 1 by omega, take_snoc_get Hf.out, toldOf_snoc, if_pos hno] at this
            rw [this, show ((j : Int) - 1 + 1).toNat = j by omega]
          have Hinv := Lib.hid (show TdInv w wr fs ((j : Int) - 1) from ⟨hin.out.inv.b, hin.out.inv.z, hin.out.inv.m, hnext⟩)
          clear hall hno hnext hin Hin0
          go_wp2
          refine ⟨⟨(j : Int) - 1, rfl, by omega, by omega, Hinv.out⟩, ?_⟩
          simp [intOf]
          first | done | omega
        · intro i k nn bb w1 hmem hpl hit1 hless hgr1 hsz1 hen1
          have hsz := Lib.hid hsz1
          have Hin1 : Go.RowKit.Hid (TdInv w w1 fs j) := hin.out.inv.grown hgr1 Hlt.out hin.out.it.lt
          obtain ⟨W2, hW2⟩ : ∃ W2, W2 = w1.alloc (.cells #[.int .i64 nn, .int .u8 bb, .int .u64 0, .string ⟨#[]⟩] 69) := ⟨_, rfl⟩
          have HW2 := Lib.hid hW2
          have Hin2 : Go.RowKit.Hid (TdInv w W2 fs j) := by rw [hW2]; exact Hin1.out.keep (al w1 _)
          have Hit2 : Go.RowKit.Hid (It W2 (w.heap.size + 1) r (seen.push i) 7) := by rw [hW2]; exact hit1.keep (al w1 _)
          have Hless : Go.RowKit.Hid (Less seen (seen.push i)) := hless
          have Hmeas := Lib.hid hin.out.it.left
          have hfb : W2.heap[w1.heap.size]? = some (.cells #[.int .i64 nn, .int .u8 bb, .int .u64 0, .string ⟨#[]⟩] 69 (0, 0)) := by rw [hW2]; exact blk_new w1 _
          obtain ⟨e0, e1, e2, e3⟩ := box4 hfb
          have hqq : At4 W2 g off j a b c l := ⟨(Hin2.out.b.cell (p := ⟨g, _, none⟩) Hg.out).trans Hq.out.q0, (Hin2.out.b.cell (p := ⟨g, _, none⟩) Hg.out).trans Hq.out.q1, (Hin2.out.b.cell (p := ⟨g, _, none⟩) Hg.out).trans Hq.out.q2, (Hin2.out.b.cell (p := ⟨g, _, none⟩) Hg.out).trans Hq.out.q3⟩
          obtain ⟨q0, q1, q2, q3⟩ := hqq
          have Hseen := Lib.hid hin.out.no
          have Hpl := Lib.hid hpl
          have hjn' : (j : Int) < (n : Int) := by omega
          have hen := hen1
          have Hrows := Lib.hid (show f.num = a ∧ (f.wire : Int) = b from by
            obtain ⟨rfl, h1, _, _, _, _, _, _⟩ := Hfit.out
            exact ⟨rfl, Int.toNat_of_nonneg h1⟩)
          have hnext : ¬ (a = nn ∧ b = bb) → TdIn w W2 fs j r (seen.push i) 7 f := fun hne => ⟨Hin2.out, Hit2.out, fun i' k' n' b' hm' hs' => by
            rw [contains_push] at hs'
            rcases Bool.or_eq_true_iff.1 hs' with h | h
            · exact Hseen.out i' k' n' b' hm' h
            · have hi : i' = i := by simpa using h
              subst hi
              have huni : n' = nn ∧ b' = bb := m7_uni hm' hmem
              rw [huni.1, huni.2, Hrows.out.1, Hrows.out.2]
              exact hne⟩
          have Hnext := Lib.hid hnext
          clear hmem hpl hit1 hless hgr1 hen1 hin Hin0 hfb hnext hsz1
          by_cases ha : a = nn
          · have hab : (a == nn) = true := by simp [ha]
            by_cases hb : b = bb
            · have hbb : (b == bb) = true := by simp [hb]
              have hres : toldV fs = .tuple #[.int .u8 k, .agg (fcells a b c l)] := by
                obtain ⟨hk1, hk2⟩ := kindOf_place Hpl.out (Hrows.out.1.trans ha) (Hrows.out.2.trans hb)
                have := Hin2.out.t
                rw [show ((j : Int) + 1).toNat = j + 1 by omega, take_snoc_get Hf.out, toldOf_snoc, if_neg (by rw [hk1]; exact hk2), hk1] at this
                unfold toldV
                rw [this, ← fc_fit Hfit.out]
              have Hres := Lib.hid hres
              clear ha hb hres
              clear hW2
              go_wp2
              rw [← HW2.out]
              go_quiet (fail)
              clear e0 e1 e2 e3 q0 q1 q2 q3
              obtain ⟨W3, hW3⟩ : ∃ W3, W3 = W2.drewN nq := ⟨_, rfl⟩
              have Hin3 : Go.RowKit.Hid (TdInv w W3 fs j) := by rw [hW3]; exact Hin2.out.drewN nq
              have hqq : At4 W3 g off j a b c l := ⟨(Hin3.out.b.cell (p := ⟨g, _, none⟩) Hg.out).trans Hq.out.q0, (Hin3.out.b.cell (p := ⟨g, _, none⟩) Hg.out).trans Hq.out.q1, (Hin3.out.b.cell (p := ⟨g, _, none⟩) Hg.out).trans Hq.out.q2, (Hin3.out.b.cell (p := ⟨g, _, none⟩) Hg.out).trans Hq.out.q3⟩
              obtain ⟨q0, q1, q2, q3⟩ := hqq
              obtain ⟨⟨z0, y0⟩, ⟨z1, y1⟩, ⟨z2, y2⟩, ⟨z3, y3⟩, hz⟩ := store4 Hin3.out.z (.int .i64 a) (.int .u8 b) (.int .u64 c) (.string ⟨l.toArray⟩)
              obtain ⟨v0, v1, v2, v3⟩ := box4 hz
              clear hz
              rw [← hW3]
              clear hW3
              go_wp2
              go_region
              all_goals
                go_wp2
                refine bodyPost_ret (v := .tuple #[.int .u8 k, .agg (fcells a b c l)]) (by simp [results, Tryd.results99, go_sem, v0, v1, v2, v3]) rfl ⟨?_, ?_⟩
                · rw [Hres.out]
                · exact ((((Hin3.out.b.setCell (Nat.le_refl _) _).setCell (Nat.le_refl _) _).setCell (Nat.le_refl _) _).setCell (Nat.le_refl _) _).drew
            · have hbb : (b == bb) = false := by simp [hb]
              have Hn2 := Lib.hid (Hnext.out (fun h => hb h.2))
              clear ha hb
              clear hW2
              go_wp2
              rw [← HW2.out]
              go_quiet (fail)
              go_wp2
              refine ⟨⟨_, _, Hn2.out.drewN nq⟩, ?_⟩
              rw [(Hit2.out.drewN nq).left, Hmeas.out]
              exact Hless.out
          · have hab : (a == nn) = false := by simp [ha]
            have Hn2 := Lib.hid (Hnext.out (fun h => ha h.1))
            clear ha
            clear hW2
            go_wp2
            rw [← HW2.out]
            go_quiet (fail)
            go_wp2
            refine ⟨⟨_, _, Hn2.out.drewN nq⟩, ?_⟩
            rw [(Hit2.out.drewN nq).left, Hmeas.out]
            exact Hless.out
    · have hneg : x < 0 := by omega
      have hx' : x = -1 := by omega
      subst hx'
      have hres : toldV fs = .tuple #[.int .u8 0, .agg #[.int .i64 0, .int .u8 0, .int .u64 0, .string ⟨#[]⟩]] := by
        have := hinv.out.t
        unfold toldV
        rw [this]
        rfl
      have Hres := Lib.hid hres
      have Hb := Lib.hid hinv.out.b
      obtain ⟨⟨z0, y0⟩, ⟨z1, y1⟩, ⟨z2, y2⟩, ⟨z3, y3⟩, hz⟩ := store4 hinv.out.z (.int .i64 0) (.int .u8 0) (.int .u64 0) (.string ⟨#[]⟩)
      obtain ⟨v0, v1, v2, v3⟩ := box4 hz
      clear hz hres hinv hx0
      go_wp2
      refine bodyPost_ret (v := .tuple #[.int .u8 0, .agg #[.int .i64 0, .int .u8 0, .int .u64 0, .string ⟨#[]⟩]]) (by simp [results, Tryd.results99, go_sem, v0, v1, v2, v3]) rfl ⟨?_, ?_⟩
      · rw [Hres.out]
      · exact ((((Hb.out.setCell (Nat.le_refl _) _).setCell (Nat.le_refl _) _).setCell (Nat.le_refl _) _).setCell (Nat.le_refl _) _)
end Go.Proofs.YtnnnnlcpmocnfaaDoor
