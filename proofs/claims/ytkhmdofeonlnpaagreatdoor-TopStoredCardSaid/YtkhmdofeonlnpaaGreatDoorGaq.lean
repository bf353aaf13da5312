/- QUEUE: THE WALK OVER slices.Delete at entries. -/
import Derived.Test.YtkhmdofeonlnpaaGreatDoorGap
import Derived.Deep.RegionLaw
import Derived.Lib.SliceRun
import Derived.Lib.SlicesDelete
namespace Go.Proofs.YtkhmdofeonlnpaaGreatDoor
open Go.RowKit
set_option maxRecDepth 100000
set_option linter.unusedVariables false
set_option linter.unusedSimpArgs false

/-- values put over others from a place on -/
def spl (l : List Value) (o : Nat) (vs : List Value) : List Value := l.take o ++ vs ++ l.drop (o + vs.length)
theorem spl_len {l : List Value} {o : Nat} {vs : List Value} (h : o + vs.length ≤ l.length) : (spl l o vs).length = l.length := by
  unfold spl
  simp only [List.length_append, List.length_take, List.length_drop]
  omega
theorem spl_cons {l : List Value} {o : Nat} {v : Value} {r : List Value} (h : o < l.length) : spl (l.set o v) (o + 1) r = spl l o (v :: r) := by
  unfold spl
  have h1 : (l.set o v).take (o + 1) = l.take o ++ [v] := by
    rw [List.take_succ_eq_append_getElem (by rw [List.length_set]; exact h), List.getElem_set_self, List.take_set_of_le (Nat.le_refl _)]
  have h2 : (l.set o v).drop (o + 1 + r.length) = l.drop (o + 1 + r.length) := List.drop_set_of_lt (by omega)
  rw [h1, h2, List.length_cons, List.append_assoc, List.append_assoc, List.append_assoc, show o + 1 + r.length = o + (r.length + 1) by omega]
  simp
theorem heap_setCells_spl {t : TypeId} (g : Nat) : ∀ (vs : List Value) (o : Nat) (w : World) (cs : Array Value), w.heap[g]? = some (.cells cs t (0, 0)) → o + vs.length ≤ cs.size → (w.setCells g o vs).heap[g]? = some (.cells (spl cs.toList o vs).toArray t (0, 0))
  | [], o, w, cs, h, _ => by
    show w.heap[g]? = _
    rw [h]
    simp [spl]
  | v :: r, o, w, cs, h, hl => by
    rw [List.length_cons] at hl
    rw [World.setCells, heap_setCells_spl g r (o + 1) (w.setCell ⟨g, o, none⟩ v) _ (heap_setCell_same w g o cs t v h) (by simp; omega)]
    rw [Array.toList_setIfInBounds, spl_cons (by simp; omega)]
theorem grown_setCells {w0 w : World} (g : Nat) : ∀ (vs : List Value) (o : Nat) (w : World), w0.grownBy w (some g) → w0.grownBy (w.setCells g o vs) (some g)
  | [], _, _, h => h
  | v :: r, o, w, h => grown_setCells (w := w) g r (o + 1) _ (kd_set h v)
theorem run_clear_entries (w : World) (ty : TypeId) (b o c : Nat) (hc : ∀ j, j < 3 → (w.cell? ⟨b, o + j, none⟩).isSome = true) (hf : ∀ j, j < 3 → w.frozen? ⟨b, o + j, none⟩ = false) :
    (Builtin.clear_ #[28] ty #[.slice (some ⟨b, o, none⟩) 1 c]).run Tryz.prog w = .ok (.tuple #[]) (w.setCells b o (ec zE)) := by
  have hst := run_storeCells_cells (P := Tryz.prog) b o (ec zE) 0 w (by simpa [ec] using hc) (by simpa [ec] using hf) (by intro v hv'; simp [ec] at hv'; rcases hv' with rfl | rfl | rfl <;> rfl)
  simp only [Nat.add_zero] at hst
  have hv : ∀ w, (zeroValue 39).run Tryz.prog w = .ok (.agg #[.int .u64 0, .string ⟨#[]⟩, .bool false]) w := fun w => by kernel_rfl
  have hz : (Builtin.zeroCells (Value.agg #[.int .u64 0, .string ⟨#[]⟩, .bool false]).cells 1).toList = ec zE := by
    simp [Builtin.zeroCells, Value.cells, ec, zE]
    rfl
  simp [Builtin.clear_, run_underlying Tryz.underlying28, hv, hz, hst]

set_option maxHeartbeats 8000000 in
theorem delete_any (w : World) (base gu n cap i : Nat) (es : List E) (h : ERow w base (.slice (some ⟨gu, 0, none⟩) n cap) es) (hn : n = es.length) (hi : i < n) (h64 : n ≤ 2000) :
    Calls Tryz.prog 84 #[.slice (some ⟨gu, 0, none⟩) n cap, .int .i64 (i : Int), .int .i64 ((i : Int) + 1)] w fun e w' => e = .returned (.slice (some ⟨gu, 0, none⟩) (n - 1) cap) ∧ ERow w' base (.slice (some ⟨gu, 0, none⟩) (n - 1) cap) (es.eraseIdx i) ∧ w.grownBy w' (some gu) := by
  obtain ⟨i0, hi0, hz0, hz1, hz2⟩ := info_parts Tryz.info39
  have hrow := h
  rcases h.2 with ⟨hv, _⟩ | ⟨g', cap', cur, hv, hbg, hg, hnc, hcm, hcs, htake⟩
  · cases hv
  injection hv with e1 e2 e3
  injection e1 with e1
  injection e1 with e1 _ _
  subst e1 e3
  rw [← hn] at hnc htake
  clear e2
  have hlt := (Array.getElem?_eq_some_iff.1 hg).1
  have hcl : ∀ j, j < cap * 3 → (w.cell? ⟨gu, j, none⟩).isSome = true := fun j hj => by
    rw [cell_of_row w gu j cur 39 (0, 0) hg, Array.getElem?_eq_getElem (by omega)]; rfl
  have hfz : ∀ j, w.frozen? ⟨gu, j, none⟩ = false := fun j => frozen_of_row w gu j cur 39 hg
  obtain ⟨news, hnews⟩ : ∃ news, news = (es.drop (i + 1)).flatMap ec := ⟨_, rfl⟩
  have hlen : news.length = (n - (i + 1)) * 3 := by rw [hnews, ec_len, List.length_drop, hn]
  have hget : ∀ t u, news[t]? = some u → w.cell? ⟨gu, (i + 1) * 3 + t, none⟩ = some u := fun t u hu => by
    rw [hnews, eflat_drop, List.getElem?_drop] at hu
    have := World.ownsRow.cells hrow (g := gu) rfl _ u hu
    rwa [Addr.add_lit, Nat.zero_add] at this
  obtain ⟨A, hA, hsrc⟩ : ∃ A : Addr, (if cap = i + 1 then some (⟨gu, 0, none⟩ : Addr) else some ⟨gu, (i + 1) * 3, none⟩) = some A ∧ Hid (∀ t u, news[t]? = some u → w.drew.cell? (A.add t) = some u) := by
    by_cases hc : cap = i + 1
    · refine ⟨⟨gu, 0, none⟩, by simp [hc], fun t u hu => ?_⟩
      have h0 : news.length = 0 := by rw [hlen]; omega
      rw [List.length_eq_zero_iff.1 h0] at hu
      simp at hu
    · refine ⟨⟨gu, (i + 1) * 3, none⟩, by simp [hc], fun t u hu => ?_⟩
      rw [Addr.add_lit]
      exact hget t u hu
  have s1 := Lib.hid hlen
  have s2 : Hid (∀ u ∈ news, u.oneCell' = true) := by rw [hnews]; exact Lib.hid (ec_one _)
  have s3 : Hid (∀ t, t < news.length → (w.drew.cell? ⟨gu, 0 + i * 3 + t, none⟩).isSome = true ∧ w.drew.frozen? ⟨gu, 0 + i * 3 + t, none⟩ = false) := by
    refine Lib.hid fun t ht => ⟨?_, hfz _⟩
    rw [hlen] at ht
    exact hcl _ (by omega)
  obtain ⟨W1, hW1⟩ : ∃ W1, W1 = w.drew.setCells gu (0 + i * 3) news := ⟨_, rfl⟩
  have hB1 : W1.heap[gu]? = some (.cells (spl cur.toList (i * 3) news).toArray 39 (0, 0)) := by
    rw [hW1, Nat.zero_add]
    exact heap_setCells_spl gu news (i * 3) w.drew cur hg (by rw [hlen, hcs]; omega)
  have hS1 : (spl cur.toList (i * 3) news).length = cap * 3 := by rw [spl_len (by rw [hlen, Array.length_toList, hcs]; omega), Array.length_toList, hcs]
  have hclr : ∀ ty, (Builtin.clear_ #[28] ty #[.slice (some ⟨gu, (n - 1) * 3, none⟩) 1 (cap - (n - 1))]).run Tryz.prog W1 = .ok (.tuple #[]) (W1.setCells gu ((n - 1) * 3) (ec zE)) := fun ty =>
    run_clear_entries W1 ty gu ((n - 1) * 3) _ (fun j hj => by rw [cell_of_row W1 gu _ _ 39 (0, 0) hB1, Array.getElem?_eq_getElem (by simp only [List.size_toArray]; omega)]; rfl) (fun j _ => frozen_of_row W1 gu _ _ 39 hB1)
  have hfin : ERow (W1.setCells gu ((n - 1) * 3) (ec zE)) base (.slice (some ⟨gu, 0, none⟩) (n - 1) cap) (es.eraseIdx i) := by
    have hB2 := heap_setCells_spl gu (ec zE) ((n - 1) * 3) W1 _ hB1 (by simp only [List.size_toArray, hS1]; simp [ec]; omega)
    have hle : (es.eraseIdx i).length = n - 1 := by rw [List.length_eraseIdx_of_lt (by omega), hn]
    refine ⟨by rw [ec_len], .inr ⟨gu, cap, _, by rw [hle], hbg, hB2, by rw [hle]; omega, hcm, ?_, ?_⟩⟩
    · simp only [List.size_toArray]
      rw [spl_len (by simp only [hS1]; simp [ec]; omega)]
      exact hS1
    · rw [hle]
      simp only
      have e4 : (spl (spl cur.toList (i * 3) news) ((n - 1) * 3) (ec zE)).take ((n - 1) * 3) = (spl cur.toList (i * 3) news).take ((n - 1) * 3) := by
        unfold spl
        rw [List.append_assoc, List.take_append_of_le_length (by rw [List.length_take]; simp only [List.length_append, List.length_take, List.length_drop, Array.length_toList, hcs, hlen]; omega), List.take_take, Nat.min_self]
      rw [e4]
      have e5 : (spl cur.toList (i * 3) news).take ((n - 1) * 3) = cur.toList.take (i * 3) ++ news := by
        unfold spl
        rw [List.take_append_of_le_length (by simp only [List.length_append, List.length_take, Array.length_toList, hcs, hlen]; omega)]
        exact List.take_of_length_le (by simp only [List.length_append, List.length_take, Array.length_toList, hcs, hlen]; omega)
      rw [e5]
      have e6 : cur.toList.take (i * 3) = (es.take i).flatMap ec := by
        rw [eflat_take, ← htake, List.take_take, Nat.min_eq_left (by omega)]
      rw [e6, hnews, ← List.flatMap_append, List.eraseIdx_eq_take_drop_succ]
  have hgr : w.grownBy (W1.setCells gu ((n - 1) * 3) (ec zE)) (some gu) := by
    refine grown_setCells (w := w) gu _ _ _ ?_
    rw [hW1]
    exact grown_setCells (w := w) gu _ _ _ ⟨rfl, rfl, rfl, Nat.le_refl _, fun _ _ _ => rfl⟩
  have Hfin := Lib.hid hfin
  have Hgr := Lib.hid hgr
  have Hclr := Lib.hid hclr
  have hW : Hid (W1 = w.drew.setCells gu (0 + i * 3) news) := Lib.hid hW1
  have hic : i ≤ cap := by omega
  have hjc : i + 1 ≤ cap := by omega
  have hin : i + 1 ≤ n := by omega
  have hI0 : (0 : Int) ≤ (i : Int) + 1 := by omega
  have hI1 : (i : Int) + 1 ≤ (n : Int) := by omega
  have hI2 : (i : Int) + 1 ≤ (cap : Int) := by omega
  have hnc2 := hnc
  clear hW1 hB1 hS1 hclr hfin hgr hget hnews hlen hcl hfz htake hcs hcm hg hrow h hn hbg
  go_enter Tryz.func84, Tryz.ntmps84
  go_wp2_with fail
  go_region_law (refine step_append_room rfl (.tmp 22) (.tmp 25) 28 rfl 39 i0 3 Tryz.underlying28 hi0 hz1 gu 0 i cap (by simp [Act.eval, Act.put]) A (n - (i + 1)) (cap - (i + 1)) news (by simp [Act.eval, Act.put]) s1.out hsrc.out s2.out (by omega) s3.out ?_; rw [← hW.out])
  rw [show i + (n - (i + 1)) = n - 1 from by omega]
  have hclr2 : ∀ ty, (Builtin.clear_ #[28] ty #[.slice (some ⟨gu, (n - 1) * 3, none⟩) (n - (n - 1)) (cap - (n - 1))]).run Tryz.prog W1 = .ok (.tuple #[]) (W1.setCells gu ((n - 1) * 3) (ec zE)) := fun ty => by
    rw [show n - (n - 1) = 1 by omega]; exact Hclr.out ty
  have hJ1 : ((n - 1 : Nat) : Int) ≤ (n : Int) := by omega
  have hJ2 : n - 1 ≤ n := by omega
  have hJ3 : n ≤ cap := by omega
  have hJ4 : ¬ cap = n - 1 := by omega
  go_wp2
  go_ret
  exact ⟨rfl, Hfin.out, Hgr.out⟩
end Go.Proofs.YtkhmdofeonlnpaaGreatDoor

/- QUEUE: THE WALKS OVER strings.HasPrefix, CutPrefix at one byte. -/
namespace Go.Proofs.YtkhmdofeonlnpaaGreatDoor
open Go.RowKit
set_option maxRecDepth 100000
set_option linter.unusedVariables false
set_option linter.unusedSimpArgs false

theorem ext01 (x : UInt8) (t : List UInt8) : (⟨(x :: t).toArray⟩ : ByteArray).extract 0 1 = ⟨#[x]⟩ := by
  apply ByteArray.ext
  apply Array.toList_inj.1
  simp
theorem ext1n (x : UInt8) (t : List UInt8) : (⟨(x :: t).toArray⟩ : ByteArray).extract 1 (t.length + 1) = ⟨t.toArray⟩ := by
  apply ByteArray.ext
  apply Array.toList_inj.1
  simp
theorem has_nil (b : UInt8) (w : World) : Calls Tryz.prog 149 #[.string ⟨#[]⟩, .string ⟨#[b]⟩] w fun e w' => e = .returned (.bool false) ∧ w = w' := by
  go_enter Tryz.func149, Tryz.ntmps149
  go_wp2
  go_ret
  exact ⟨rfl, rfl⟩
theorem has_cons (x : UInt8) (t : List UInt8) (b : UInt8) (hl : t.length ≤ 9223372036854775806) (w : World) : Calls Tryz.prog 149 #[.string ⟨(x :: t).toArray⟩, .string ⟨#[b]⟩] w fun e w' => e = .returned (.bool (decide (x = b))) ∧ w = w' := by
  obtain ⟨n, hn⟩ : ∃ n, t.length = n := ⟨_, rfl⟩
  have h1 : (1 : Int) ≤ (t.length : Int) + 1 := by omega
  by_cases hx : x = b
  · rw [decide_eq_true hx]
    subst hx
    go_enter Tryz.func149, Tryz.ntmps149
    go_wp2
    go_ret
    refine ⟨?_, rfl⟩
    show Ending.returned (Value.bool (((⟨(x :: t).toArray⟩ : ByteArray).extract 0 1).toList == [x])) = _
    rw [ext01]
    simp
  · rw [decide_eq_false hx]
    have Hx := Lib.hid hx
    clear hx
    go_enter Tryz.func149, Tryz.ntmps149
    go_wp2
    go_ret
    refine ⟨?_, rfl⟩
    show Ending.returned (Value.bool (((⟨(x :: t).toArray⟩ : ByteArray).extract 0 1).toList == [b])) = _
    rw [ext01]
    simp [Hx.out]
theorem cut_nil (b : UInt8) (w : World) : Calls Tryz.prog 70 #[.string ⟨#[]⟩, .string ⟨#[b]⟩] w fun e w' => e = .returned (.tuple #[.string ⟨#[]⟩, .bool false]) ∧ w = w' := by
  have h99 : Calls Tryz.prog 119 #[.string ⟨#[]⟩, .string ⟨#[b]⟩] w fun e w' => e = .returned (.tuple #[.string ⟨#[]⟩, .bool false]) ∧ w = w' := by
    go_enter Tryz.func119, Tryz.ntmps119
    go_wp2_with fail
    refine (has_nil b w).mono ?_
    rintro e w' ⟨rfl, rfl⟩
    go_wp2
    go_ret2
    exact ⟨rfl, rfl⟩
  go_enter Tryz.func70, Tryz.ntmps70
  go_wp2_with fail
  refine h99.mono ?_
  rintro e w' ⟨rfl, rfl⟩
  go_wp2
  go_ret2
  exact ⟨rfl, rfl⟩
theorem cut_no (x : UInt8) (t : List UInt8) (b : UInt8) (hx : ¬ x = b) (hl : t.length ≤ 9223372036854775806) (w : World) : Calls Tryz.prog 70 #[.string ⟨(x :: t).toArray⟩, .string ⟨#[b]⟩] w fun e w' => e = .returned (.tuple #[.string ⟨(x :: t).toArray⟩, .bool false]) ∧ w = w' := by
  have h116 := has_cons x t b hl w
  rw [decide_eq_false hx] at h116
  clear hx
  have H116 := Lib.hid h116
  clear h116
  have h99 : Calls Tryz.prog 119 #[.string ⟨(x :: t).toArray⟩, .string ⟨#[b]⟩] w fun e w' => e = .returned (.tuple #[.string ⟨(x :: t).toArray⟩, .bool false]) ∧ w = w' := by
    go_enter Tryz.func119, Tryz.ntmps119
    go_wp2_with fail
    refine (H116.out).mono ?_
    rintro e w' ⟨rfl, rfl⟩
    go_wp2
    go_ret2
    exact ⟨rfl, rfl⟩
  have H99 := Lib.hid h99
  clear h99
  go_enter Tryz.func70, Tryz.ntmps70
  go_wp2_with fail
  refine (H99.out).mono ?_
  rintro e w' ⟨rfl, rfl⟩
  go_wp2
  go_ret2
  exact ⟨rfl, rfl⟩
theorem cut_yes (b : UInt8) (t : List UInt8) (hl : t.length ≤ 9223372036854775806) (w : World) : Calls Tryz.prog 70 #[.string ⟨(b :: t).toArray⟩, .string ⟨#[b]⟩] w fun e w' => e = .returned (.tuple #[.string ⟨t.toArray⟩, .bool true]) ∧ w = w' := by
  have h116 := has_cons b t b hl w
  rw [decide_eq_true rfl] at h116
  have H116 := Lib.hid h116
  clear h116
  have h99 : Calls Tryz.prog 119 #[.string ⟨(b :: t).toArray⟩, .string ⟨#[b]⟩] w fun e w' => e = .returned (.tuple #[.string ⟨t.toArray⟩, .bool true]) ∧ w = w' := by
    have h1 : (1 : Int) ≤ (t.length : Int) + 1 := by omega
    go_enter Tryz.func119, Tryz.ntmps119
    go_wp2_with fail
    refine (H116.out).mono ?_
    rintro e w' ⟨rfl, rfl⟩
    go_wp2
    go_ret2
    refine ⟨?_, rfl⟩
    show Ending.returned (.tuple #[.string ((⟨(b :: t).toArray⟩ : ByteArray).extract 1 (t.length + 1)), .bool true]) = _
    rw [ext1n]
  have H99 := Lib.hid h99
  clear h99
  go_enter Tryz.func70, Tryz.ntmps70
  go_wp2_with fail
  refine (H99.out).mono ?_
  rintro e w' ⟨rfl, rfl⟩
  go_wp2
  go_ret2
  exact ⟨rfl, rfl⟩
end Go.Proofs.YtkhmdofeonlnpaaGreatDoor
