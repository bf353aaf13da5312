/- MESSAGES OF VALUES, READ: a map, and any value, WALKED. -/
import Derived.Test.YtnnnnlcpmocnfaaGreatDoorRv6
import Derived.IntWalk
import Derived.Deep.Cut
import Derived.Outline
import Derived.WalkLawsBesides
import Derived.Deep.RegionLaw
import Derived.Deep.RegionHeld3
namespace Go.Proofs.YtnnnnlcpmocnfaaGreatDoor
open Go.RowKit
set_option linter.unusedVariables false
set_option linter.unusedSimpArgs false
attribute [local go_sem] run_store_float

theorem gv7_pairs {w : World} {g : Nat} {k : Int} {q1 q2 : Value} {t : TypeId} (h : w.heap[g]? = some (.cells (gv7 k q1 q2) t (0, 0))) (u : Value) : (w.setCell ⟨g, 6, none⟩ u).heap[g]? = some (.cells (gv7 k q1 u) t (0, 0)) := by
  have hlt := lt_of_block h
  have h' : w.heap[g] = .cells (gv7 k q1 q2) t (0, 0) := by simpa [Array.getElem?_eq_getElem hlt] using h
  show (w.heap.modify g _)[g]? = _
  rw [Array.getElem?_eq_getElem (by simpa using hlt), Array.getElem_modify_self, h']
  rfl
/-- the map that is read -/
def rpairsR (g : List UInt8 → Except Int V) (ps : List M.Fd) : Except Int V := match rpairsG g ps with | .error c => .error c | .ok l => .ok (.mk 6 ⟨#[]⟩ false 0 0 [] l)

set_option maxRecDepth 100000 in
set_option maxHeartbeats 1000000 in
theorem rd_six (s : List UInt8) (fs : List M.Fd) (f : M.Fd) (a b c : Int) (l : List UInt8) (hr : M.read s = .ok fs) (ht : toldOf fs = (6, f)) (hf : Fit f a b c l) (d : Int) (n : Nat) (hfu : n + 1 ≤ 8) (hd : d = 8 - ((n + 1 : Nat) : Int)) (ih : ReadC n) (hl : l.length ≤ 65536) (ps : List M.Fd) (hp : partsR l (n + 1) = .ok ps) (hps : ∀ f ∈ ps, f.s.length ≤ 65536) (w : World) (hs : s.length ≤ 9223372036854775807) (hT : Tabs w) :
    Calls Tryz.prog 23 #[.string ⟨s.toArray⟩, .int .i64 d] w (RPost (rpairsR (rmsg n) ps) w) := by
  have HHhfu := Lib.hid hfu
  have HHhd := Lib.hid hd
  have HHih := Lib.hid ih
  have HHhl := Lib.hid hl
  have HHhp := Lib.hid hp
  have HHhps := Lib.hid hps
  have HTV := Lib.hid (toldV_is ht hf)
  have Hf := Lib.hid hf
  have Hr := Lib.hid hr
  obtain ⟨Wa, hWa⟩ : ∃ Wa, Wa = w.alloc (.cells #[.int .u8 0, .string ⟨#[]⟩, .bool false, .int .i64 0, .float .f64 0, .slice none 0 0, .slice none 0 0] 27) := ⟨_, rfl⟩
  have hba : Below w.heap.size w Wa := by rw [hWa]; exact al w _
  have hra : Wa.heap[w.heap.size]? = some (.cells #[.int .u8 0, .string ⟨#[]⟩, .bool false, .int .i64 0, .float .f64 0, .slice none 0 0, .slice none 0 0] 27 (0, 0)) := by rw [hWa]; exact blk_new w _
  have HFields := Lib.hid (fields_all s Wa hs)
  have HWa := Lib.hid hWa
  have Hba := Lib.hid hba
  have Hra := Lib.hid hra
  have HT := Lib.hid hT
  clear hr ht hf hWa hba hra hs hT
  clear hfu hd ih hl hp hps
  go_enter Tryz.func23, Tryz.ntmps23
  go_wp2_with fail
  rw [← HWa.out]
  refine (HFields.out).mono ?_
  intro e w1 h
  unfold FieldsP at h
  rw [Hr.out] at h
  obtain ⟨ad, cap, rfl, hfl, _, hb1⟩ := h
  have HTold := Lib.hid (told_any w1 ad fs.length cap fs rfl hfl)
  have Hb1 := Lib.hid (Hba.out.trans (hb1.mono Hba.out.size))
  have Hr1 := Lib.hid ((hb1.block _ (lt_of_block Hra.out)).trans Hra.out)
  clear hfl hb1
  go_wp2_with fail
  refine (HTold.out).mono ?_
  rintro e w2 ⟨rfl, hb2⟩
  rw [HTV.out]
  have Hb2 := Lib.hid (Hb1.out.trans (hb2.mono Hb1.out.size))
  have Hr2 := Lib.hid ((hb2.block _ (lt_of_block Hr1.out)).trans Hr1.out)
  clear hb2
  obtain ⟨W3, hW3⟩ : ∃ W3, W3 = (w2.alloc (.cells (fcells a b c l) 73)).alloc (.cells (gv7 6 (.slice none 0 0) (.slice none 0 0)) 27) := ⟨_, rfl⟩
  have HW3 := Lib.hid hW3
  have Hr3 := Lib.hid (show W3.heap[w.heap.size]? = some (.cells #[.int .u8 0, .string ⟨#[]⟩, .bool false, .int .i64 0, .float .f64 0, .slice none 0 0, .slice none 0 0] 27 (0, 0)) by rw [hW3]; exact blk_alloc (blk_alloc Hr2.out _) _)
  have Hb3 := Lib.hid (show Below w.heap.size w W3 by rw [hW3]; exact (Hb2.out.alloc Hb2.out.size _).alloc (by have := Hb2.out.size; simp; omega) _)
  have Hv3 := Lib.hid (show W3.heap[w2.heap.size + 1]? = some (.cells (gv7 6 (.slice none 0 0) (.slice none 0 0)) 27 (0, 0)) by rw [hW3]; exact blk_at (by simp))
  have Hlt3 := Lib.hid (show w.heap.size < w2.heap.size + 1 by have := Hb2.out.size; omega)
  have Hparts := Lib.hid (parts_all l (n + 1) HHhfu.out W3 (by have := HHhl.out; omega))
  clear hW3
  rw [← HHhd.out, HHhp.out] at Hparts
  have Ihp := Lib.hid (fun (ad : Option Addr) (cap m : Nat) (hm : m = ps.length) (hm2 : m ≤ 256) (W : World) (hT : Tabs W) (hfl : Flds W W.heap.size ad ps) => rpairs_all n (rpair_of n HHih.out) ps ad cap m hm hm2 W hT hfl HHhps.out (d + 1) (by have := HHhd.out; omega))
  have hd0 : 0 ≤ d := by have := HHhd.out; have := HHhfu.out; omega
  have hd8 : d ≤ 8 := by have := HHhd.out; have := HHhfu.out; omega
  clear HHhd HHhp HHhfu HHhl HHih HHhps
  go_wp2_with fail
  rw [← HW3.out]
  refine (Hparts.out).mono ?_
  rintro e w4 ⟨ad4, cap4, rfl, hfl4, hlen4, hnew4, hb4⟩
  obtain ⟨m, hm⟩ : ∃ m, m = ps.length := ⟨_, rfl⟩
  rw [← hm]
  have Hcall := Lib.hid (Ihp.out ad4 cap4 m hm (by omega) w4 (HT.out.under (Hb3.out.trans (hb4.mono Hb3.out.size))) hfl4)
  have Hb4 := Lib.hid (Hb3.out.trans (hb4.mono Hb3.out.size))
  have Hr4 := Lib.hid ((hb4.block _ (lt_of_block Hr3.out)).trans Hr3.out)
  have Hv4 := Lib.hid ((hb4.block _ (lt_of_block Hv3.out)).trans Hv3.out)
  clear hm hfl4 hlen4 hnew4 hb4
  cases hg : rpairsG (rmsg n) ps with
  | error cc =>
    rw [hg] at Hcall
    have HRc := Lib.hid (show rpairsR (rmsg n) ps = .error cc by unfold rpairsR; rw [hg])
    clear hg
    go_wp2_with fail
    refine (Hcall.out).mono ?_
    rintro e w5 ⟨rfl, hb5⟩
    exact ⟨rfl, by rw [HRc.out]; exact ⟨rfl, Hb4.out.trans (hb5.mono Hb4.out.size)⟩⟩
  | ok lp =>
    rw [hg] at Hcall
    have HRc := Lib.hid (show rpairsR (rmsg n) ps = .ok (.mk 6 ⟨#[]⟩ false 0 0 [] lp) by unfold rpairsR; rw [hg])
    clear hg
    go_wp2_with fail
    refine (Hcall.out).mono ?_
    rintro e w5 ⟨v, es, rfl, hrow, hes, hl256, hb5⟩
    obtain ⟨adv, capv, rfl⟩ := hrow.form
    have Hrow := Lib.hid hrow
    have Hes := Lib.hid hes
    have Hl256 := Lib.hid hl256
    have Hb5 := Lib.hid (Hb4.out.trans (hb5.mono Hb4.out.size))
    have Hr5 := Lib.hid ((hb5.block _ (lt_of_block Hr4.out)).trans Hr4.out)
    have Hv5 := Lib.hid ((hb5.block _ (lt_of_block Hv4.out)).trans Hv4.out)
    have Hs4 := Lib.hid (show w2.heap.size + 1 < w4.heap.size from lt_of_block Hv4.out)
    have z6 := (box7v Hv5.out).2.2.2.2.2.2
    have y6 := frozen_of_row w5 (w2.heap.size + 1) 6 _ 27 Hv5.out
    clear hrow hes hl256 hb5
    obtain ⟨n1, hn1⟩ : ∃ n1, n1 = es.length := ⟨_, rfl⟩
    have Hn1 := Lib.hid hn1
    rw [← hn1]
    clear hn1
    go_upto_region 24 with (fail)
    obtain ⟨W6, hW6⟩ : ∃ W6, W6 = w5.setCell ⟨w2.heap.size + 1, 6, none⟩ (.slice adv n1 capv) := ⟨_, rfl⟩
    rw [← hW6]
    have hfar : ∀ g, g ≠ w2.heap.size + 1 → W6.heap[g]? = w5.heap[g]? := fun g hne => by rw [hW6]; exact Below.heap_setCell w5 _ _ g (by simp; exact hne)
    have Hsz6 := Lib.hid (show W6.heap.size = w5.heap.size by rw [hW6]; simp [World.setCell])
    have Hr6 := Lib.hid (show W6.heap[w.heap.size]? = some (.cells #[.int .u8 0, .string ⟨#[]⟩, .bool false, .int .i64 0, .float .f64 0, .slice none 0 0, .slice none 0 0] 27 (0, 0)) from (hfar _ (by have := Hlt3.out; omega)).trans Hr5.out)
    have Hb6 := Lib.hid (show Below w.heap.size w W6 by rw [hW6]; exact Hb5.out.setCell (by have := Hlt3.out; show w.heap.size ≤ w2.heap.size + 1; omega) _)
    have hv : W6.heap[w2.heap.size + 1]? = some (.cells (gv7 6 (.slice none 0 0) (.slice adv n1 capv)) 27 (0, 0)) := by rw [hW6]; exact gv7_pairs Hv5.out _
    have Hrow6 := Lib.hid (Hrow.out.keep (w' := W6) (fun g hg hl => hfar g (by have := Hs4.out; omega)) (by rw [Hsz6.out]; exact Nat.le_refl _))
    clear z6 y6 hW6 hfar
    obtain ⟨k0, k1, k2, k3, k4, k5, k6⟩ := box7v hv
    obtain ⟨⟨h0, h1, h2, h3, h4, h5, h6⟩, g0, g1, g2, g3, g4, g5, g6⟩ := zero_box Hr6.out
    clear hv
    go_wp2
    refine bodyPost_ret (v := .agg (gv7 6 (.slice none 0 0) (.slice adv n1 capv))) (by simp [results, Tryz.results23, go_sem, h0, h1, h2, h3, h4, h5, h6]) rfl ?_
    rw [HRc.out]
    have Hsz := Lib.hid (show w.heap.size + 1 ≤ w4.heap.size by have := Hlt3.out; have := Hs4.out; omega)
    have hdata := Hrow6.out.data (by have := Hl256.out; omega)
    rw [Hes.out] at hdata
    have hlen : lp.length ≤ 256 := by rw [← Hes.out, List.length_map]; exact Hl256.out
    rw [Hn1.out]
    refine ⟨.slice none 0 0, .slice adv es.length capv, rfl, Rep.of ⟨by show (0 : Int) ≤ 6; decide, by show (6 : Int) ≤ 255; decide, by show (0 : Nat) ≤ _; omega, by show ([] : List V).length * 96 ≤ _; simp, by show lp.length * 112 ≤ _; omega, by show -9223372036854775808 ≤ (0 : Int); decide, by show (0 : Int) ≤ 9223372036854775807; decide, by show (0 : Nat) < _; omega⟩ (RepL.nil _ _) ?_, set7 Hb6.out _ _ _ _ _ _ _⟩
    refine hdata.keep ⟨by simp [World.setCell], fun g hg _ => (far_set (far_set (far_set (far_set (far_set (far_set (far_set (fun _ _ => rfl) (by simp)) (by simp)) (by simp)) (by simp)) (by simp)) (by simp)) (by simp)) g (Nat.le_trans Hsz.out hg.1)⟩ (fun g hg _ => ⟨by have := Hsz.out; have hg' : w4.heap.size ≤ g := hg.1; omega, hg.2.keep ((far_set (far_set (far_set (far_set (far_set (far_set (far_set (fun _ _ => rfl) (by simp)) (by simp)) (by simp)) (by simp)) (by simp)) (by simp)) (by simp)) g (Nat.le_trans Hsz.out hg.1))⟩)

set_option maxRecDepth 100000 in
theorem rd_err (s : List UInt8) (cc : Nat) (hr : M.read s = .error cc) (d : Int) (w : World) (hs : s.length ≤ 9223372036854775807) : Calls Tryz.prog 23 #[.string ⟨s.toArray⟩, .int .i64 d] w fun e w' => e = pan31 (cc : Int) ∧ Below w.heap.size w w' := by
  have Hr := Lib.hid hr
  obtain ⟨Wa, hWa⟩ : ∃ Wa, Wa = w.alloc (.cells #[.int .u8 0, .string ⟨#[]⟩, .bool false, .int .i64 0, .float .f64 0, .slice none 0 0, .slice none 0 0] 27) := ⟨_, rfl⟩
  have Hba := Lib.hid (show Below w.heap.size w Wa by rw [hWa]; exact al w _)
  have HFields := Lib.hid (fields_all s Wa hs)
  have HWa := Lib.hid hWa
  clear hr hWa hs
  go_enter Tryz.func23, Tryz.ntmps23
  go_wp2_with fail
  rw [← HWa.out]
  refine (HFields.out).mono ?_
  intro e w1 h
  unfold FieldsP at h
  rw [Hr.out] at h
  obtain ⟨rfl, hb⟩ := h
  exact ⟨rfl, by exact ⟨rfl, Hba.out.trans (hb.mono Hba.out.size)⟩⟩
/-- what is parsed fits -/
theorem parse1_fine {l : List UInt8} {f : M.Fd} {r : List UInt8} (hl : l.length ≤ 9223372036854775807) (h : M.parse1 l = .ok (f, r)) : Fine f := by
  have key : ∀ k n : Nat, ∀ wr : Int, ∀ s : List UInt8, ¬ (k / 8 < 1 ∨ 536870911 < k / 8) → 0 ≤ wr → wr ≤ 255 → n < 18446744073709551616 → s.length ≤ l.length → Fine ⟨(k / 8 : Nat), wr.toNat, n, s⟩ := fun k n wr s hk h0 h1 hn hs => by
    refine ⟨((k / 8 : Nat) : Int), wr, (n : Int), s, ⟨by simp, h0, h1, by omega, by omega, by omega, by omega, by omega⟩⟩
  have hu : ∀ (m : Nat) (t : List UInt8), m ≤ 8 → M.unle (t.take m) < 18446744073709551616 := fun m t hm => by
    have h1 := M.unle_lt (t.take m)
    have h2 : (t.take m).length ≤ 8 := Nat.le_trans (List.length_take_le m t) hm
    exact Nat.lt_of_lt_of_le h1 (Nat.le_trans (Nat.pow_le_pow_right (by decide) h2) (by decide))
  unfold M.parse1 at h
  cases hr : M.rd l with
  | none => rw [hr] at h; cases h
  | some x =>
    obtain ⟨k, a⟩ := x
    rw [hr] at h
    simp only at h
    by_cases hk : k / 8 < 1 ∨ 536870911 < k / 8
    · rw [if_pos hk] at h; cases h
    rw [if_neg hk] at h
    by_cases h0 : k % 8 = 0
    · rw [if_pos h0] at h
      cases hr2 : M.rd (l.drop a) with
      | none => rw [hr2] at h; cases h
      | some y =>
        obtain ⟨n, b⟩ := y
        rw [hr2] at h
        injection h with h; injection h with h _; subst h
        exact key k n 0 [] hk (by omega) (by omega) (M.rd_bound hr2).2.2.2 (by simp)
    rw [if_neg h0] at h
    by_cases h1 : k % 8 = 1
    · rw [if_pos h1] at h
      split at h
      · cases h
      · injection h with h; injection h with h _; subst h
        exact key k _ 1 [] hk (by omega) (by omega) (hu 8 _ (by omega)) (by simp)
    rw [if_neg h1] at h
    by_cases h5 : k % 8 = 5
    · rw [if_pos h5] at h
      split at h
      · cases h
      · injection h with h; injection h with h _; subst h
        exact key k _ 5 [] hk (by omega) (by omega) (hu 4 _ (by omega)) (by simp)
    rw [if_neg h5] at h
    by_cases h2 : k % 8 = 2
    · rw [if_pos h2] at h
      cases hr2 : M.rd (l.drop a) with
      | none => rw [hr2] at h; cases h
      | some y =>
        obtain ⟨n, b⟩ := y
        rw [hr2] at h
        simp only at h
        split at h
        · cases h
        · injection h with h; injection h with h _; subst h
          exact key k 0 2 _ hk (by omega) (by omega) (by omega) (by simp only [List.length_take, List.length_drop]; omega)
    · rw [if_neg h2] at h; cases h
theorem parse_fine : ∀ (n : Nat) (l : List UInt8), l.length ≤ n → l.length ≤ 9223372036854775807 → ∀ fs, M.parse l = .ok fs → ∀ f ∈ fs, Fine f := by
  intro n
  induction n with
  | zero =>
    intro l hl _ fs h f hf
    have : l = [] := List.eq_nil_of_length_eq_zero (by omega)
    subst this
    rw [M.parse_nil] at h
    injection h with h; subst h; cases hf
  | succ n ih =>
    intro l hl hb fs h f hf
    by_cases h0 : l = []
    · subst h0; rw [M.parse_nil] at h; injection h with h; subst h; cases hf
    · cases h1 : M.parse1 l with
      | error e => rw [M.parse_err h0 h1] at h; cases h
      | ok x =>
        obtain ⟨g, r⟩ := x
        rw [M.parse_ok h0 h1] at h
        have hlen := M.parse1_len h1
        cases h2 : M.parse r with
        | error e => rw [h2] at h; cases h
        | ok gs =>
          rw [h2] at h
          injection h with h
          subst h
          rcases List.mem_cons.1 hf with rfl | hf
          · exact parse1_fine hb h1
          · exact ih r (by omega) (by omega) gs h2 f hf
theorem read_fine {s : List UInt8} {fs : List M.Fd} (h : M.read s = .ok fs) : ∀ f ∈ fs, Fine f := by
  unfold M.read at h
  split at h
  · cases h
  · rename_i hl
    cases hp : M.parse s with
    | error e => rw [hp] at h; cases h
    | ok gs =>
      rw [hp] at h
      dsimp only at h
      split at h
      · cases h
      · injection h with h; subst h
        exact parse_fine _ s (Nat.le_refl _) (by omega) gs hp
theorem wrapi64 (n : Int) : -9223372036854775808 ≤ IntKind.i64.wrap n ∧ IntKind.i64.wrap n ≤ 9223372036854775807 := by
  simp [IntKind.wrap, IntKind.bits, IntKind.signed]
  split <;> omega

theorem parts_zero (l : List UInt8) (ps : List M.Fd) : ¬ partsR l 0 = .ok ps := by
  unfold partsR
  cases M.read l with
  | error c => exact fun h => nomatch h
  | ok fs => dsimp only; split <;> exact fun h => nomatch h
theorem parts_s {l : List UInt8} {n : Nat} {ps : List M.Fd} (h : partsR l n = .ok ps) : ∀ f ∈ ps, f.s.length ≤ 65536 := by
  unfold partsR at h
  cases hr : M.read l with
  | error c => rw [hr] at h; cases h
  | ok fs =>
    rw [hr] at h
    dsimp only at h
    split at h
    · cases h
    · split at h
      · cases h
      · injection h with h; subst h
        intro f hf
        exact read_s hr f (List.mem_filter.1 (show f ∈ fs.filter (pick 1 2) from hf)).1

/-- read, given that it reads what is nested -/
theorem read_step (n : Nat) (hn : n ≤ 8) (g : List UInt8 → Except Int V) (ih : ∀ m, n = m + 1 → ReadC m ∧ g = rmsg m) (s : List UInt8) (w : World) (hT : Tabs w) (hs : s.length ≤ 9223372036854775807) :
    Calls Tryz.prog 23 #[.string ⟨s.toArray⟩, .int .i64 (8 - (n : Int))] w (RPost (rbody n g s) w) := by
  unfold rbody
  cases hr : M.read s with
  | error c => exact rd_err s c hr _ w hs
  | ok fs =>
    dsimp only
    have hmem := told_mem fs
    have hkind := told_kind fs
    have hrange := kindOf_range (toldOf fs).2
    obtain ⟨k, f, htf⟩ : ∃ k f, toldOf fs = (k, f) := ⟨_, _, rfl⟩
    rw [htf] at hmem hkind hrange
    rw [htf]
    dsimp only at hmem hkind hrange ⊢
    obtain ⟨a, b, c, l, hf⟩ : Fine f := by
      rcases hmem with h | h
      · exact read_fine hr f h
      · injection h with _ h; subst h
        exact ⟨0, 0, 0, [], ⟨rfl, by decide, by decide, by decide, by decide, by decide, by decide, by simp⟩⟩
    have hfs : f.s = l := by rw [hf.e]
    have hfn : (f.n : Int) = c := by rw [hf.e]; exact Int.toNat_of_nonneg hf.c0
    have hfn2 : f.n = c.toNat := by rw [hf.e]
    have hl : l.length ≤ 65536 := by
      rw [← hfs]
      rcases hmem with h | h
      · exact read_s hr f h
      · injection h with _ h; rw [h]; simp
    rw [hfs, hfn]
    have hk : 0 ≤ k ∧ k ≤ 7 := by rcases hkind with h | h <;> omega
    by_cases k1 : k = 1
    · subst k1
      rw [if_pos rfl]
      by_cases hkey : keyErr (BA l) = 0
      · rw [if_pos hkey]; exact rd_one s fs f a b c l hr htf hf _ hl hkey w hs hT
      · rw [if_neg hkey]; exact rd_one_no s fs f a b c l hr htf hf _ hl hkey w hs hT
    rw [if_neg k1]
    by_cases k2 : k = 2
    · subst k2; rw [if_pos rfl]; exact rd_two s fs f a b c l hr htf hf _ w hs
    rw [if_neg k2]
    by_cases k3 : k = 3
    · subst k3; rw [if_pos rfl]; exact rd_three s fs f a b c l hr htf hf _ _ rfl (wrapi64 c) w hs
    rw [if_neg k3]
    by_cases k4 : k = 4
    · subst k4; rw [if_pos rfl, hfn2]; exact rd_four s fs f a b c l hr htf hf _ w hs
    rw [if_neg k4]
    by_cases k5 : k = 5
    · subst k5
      rw [if_pos rfl]
      cases hp : partsR l n with
      | error cc => exact rd_parts_no5 s fs f a b c l hr htf hf _ n hn rfl hl cc hp w hs
      | ok ps =>
        dsimp only
        cases n with
        | zero => exact absurd hp (parts_zero l ps)
        | succ m =>
          obtain ⟨h1, rfl⟩ := ih m rfl
          exact rd_five s fs f a b c l hr htf hf _ m hn rfl h1 hl ps hp (parts_s hp) w hs hT
    rw [if_neg k5]
    by_cases k6 : k = 6
    · subst k6
      rw [if_pos rfl]
      cases hp : partsR l n with
      | error cc => exact rd_parts_no6 s fs f a b c l hr htf hf _ n hn rfl hl cc hp w hs
      | ok ps =>
        dsimp only
        cases n with
        | zero => exact absurd hp (parts_zero l ps)
        | succ m =>
          obtain ⟨h1, rfl⟩ := ih m rfl
          exact rd_six s fs f a b c l hr htf hf _ m hn rfl h1 hl ps hp (parts_s hp) w hs hT
    rw [if_neg k6]
    by_cases k7 : k = 7
    · subst k7
      rw [if_pos rfl]
      by_cases h4 : l.length ≤ 4096
      · rw [if_pos h4]; exact rd_seven s fs f a b c l hr htf hf _ (by omega) w hs
      · rw [if_neg h4]; exact rd_seven_no s fs f a b c l hr htf hf _ (by omega) w hs
    rw [if_neg k7]
    obtain rfl : k = 0 := by omega
    exact rd_none s fs f a b c l hr htf hf _ w hs
theorem read_all : ∀ n, n ≤ 8 → ReadC n
  | 0, h => fun s w hT hs => by
    have := read_step 0 h (fun _ => .error 11) (fun m hm => by omega) s w hT hs
    exact this
  | n + 1, h => fun s w hT hs => by
    have := read_step (n + 1) h (rmsg n) (fun m hm => by
      have e : n = m := by omega
      subst e
      exact ⟨read_all n (by omega), rfl⟩) s w hT hs
    exact this
theorem rpair_all (n : Nat) (h : n ≤ 8) : ReadPC n := rpair_of n (read_all n h)
end Go.Proofs.YtnnnnlcpmocnfaaGreatDoor
