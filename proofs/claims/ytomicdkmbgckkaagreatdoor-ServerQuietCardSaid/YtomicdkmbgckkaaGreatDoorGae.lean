/- HTTP: A CURSOR; THE WALKS OVER isValue, take, line. -/
import Derived.Test.YtomicdkmbgckkaaGreatDoorGad
import Derived.Deep.RegionHeld3
import Derived.Deep.RegionWith
namespace Go.Proofs.YtomicdkmbgckkaaGreatDoor
open Go.RowKit
set_option linter.unusedVariables false
set_option linter.unusedSimpArgs false
set_option maxRecDepth 100000

theorem trim_any (w : World) (s : H.T) (hs : s.length ≤ 1000000000) : Calls Tryz.prog 59 #[S s, .string ⟨#[32, 9]⟩] w fun e w' => e = .returned (S (Lib.trimS s [32, 9])) ∧ Below w.heap.size w w' :=
  Any.strings_Trim_laid Tryz.lays160 (by kernel_rfl) ⟨s.toArray⟩ ⟨#[32, 9]⟩ w (by rw [S_size]; omega) (by decide) (ascii_of_all (by decide))
theorem value_any (w : World) (s : H.T) (hs : s.length ≤ 1000000000) : Calls Tryz.prog 60 #[S s] w fun e w' => e = .returned (.bool (H.isValue s)) ∧ Below w.heap.size w w' := by
  have hi := isOf_any w s 86 H.val (fun args w => by kernel_rfl) rune_val H.val_hi
  have ht := fun w => trim_any w s hs
  unfold H.isValue
  by_cases he : s = []
  · subst he
    go_enter Tryz.func60, Tryz.ntmps60
    go_wp2
    go_ret
    exact ⟨rfl, Below.refl _ _⟩
  · have hne : ¬ (⟨s.toArray⟩ : ByteArray) = ⟨#[]⟩ := fun h => he ((S_inj (b := [])).1 h)
    have hie : s.isEmpty = false := by cases s with | nil => exact absurd rfl he | cons => rfl
    rw [hie]
    cases hv : H.isOf s H.val with
    | false =>
      rw [hv] at hi
      clear ht
      go_enter Tryz.func60, Tryz.ntmps60
      go_wp2_with (refine hi.mono ?_; rintro e w' ⟨rfl, hb⟩)
      go_ret
      exact ⟨by simp, hb⟩
    | true =>
      rw [hv] at hi
      obtain ⟨u, hu⟩ : ∃ u, Lib.trimS s [32, 9] = u := ⟨_, rfl⟩
      rw [hu] at ht ⊢
      clear hu
      by_cases hq : s = u
      · subst hq
        go_enter Tryz.func60, Tryz.ntmps60
        go_wp2_with (first | (go_at_call 32; refine hi.mono ?_; rintro e w' ⟨rfl, hb⟩) | (go_at_call 59; refine (ht _).mono ?_; rintro e w'' ⟨rfl, hb2⟩))
        go_ret
        exact ⟨by simp, hb.trans (hb2.mono hb.size)⟩
      · go_enter Tryz.func60, Tryz.ntmps60
        go_wp2_with (first | (go_at_call 32; refine hi.mono ?_; rintro e w' ⟨rfl, hb⟩) | (go_at_call 59; refine (ht _).mono ?_; rintro e w'' ⟨rfl, hb2⟩))
        go_ret
        exact ⟨by simp [hq], hb.trans (hb2.mono hb.size)⟩

theorem box2 {w : World} {g : Nat} {x0 x1 : Value} {t : TypeId} (h : w.heap[g]? = some (.cells #[x0, x1] t (0, 0))) : w.cell? ⟨g, 0, none⟩ = some x0 ∧ w.cell? ⟨g, 1, none⟩ = some x1 :=
  ⟨cell_of_row w g 0 _ t (0, 0) h, cell_of_row w g 1 _ t (0, 0) h⟩
theorem frz2 {w : World} {g : Nat} {x0 x1 : Value} {t : TypeId} (h : w.heap[g]? = some (.cells #[x0, x1] t (0, 0))) : w.frozen? ⟨g, 0, none⟩ = false ∧ w.frozen? ⟨g, 1, none⟩ = false :=
  ⟨frozen_of_row w g 0 _ t h, frozen_of_row w g 1 _ t h⟩
/-- a cursor at that block: what is left, how much a body may have -/
def Crs (w : World) (g : Nat) (l : H.T) (most : Int) : Prop := w.heap[g]? = some (.cells #[S l, .int .i64 most] 83 (0, 0))
theorem Crs.lt {w : World} {g : Nat} {l : H.T} {m : Int} (h : Crs w g l m) : g < w.heap.size := blk_lt h
theorem Crs.c0 {w : World} {g : Nat} {l : H.T} {m : Int} (h : Crs w g l m) : w.cell? ⟨g, 0, none⟩ = some (S l) := cell_of_row w g 0 _ 83 (0, 0) h
theorem Crs.c1 {w : World} {g : Nat} {l : H.T} {m : Int} (h : Crs w g l m) : w.cell? ⟨g, 1, none⟩ = some (.int .i64 m) := cell_of_row w g 1 _ 83 (0, 0) h
theorem Crs.f0 {w : World} {g : Nat} {l : H.T} {m : Int} (h : Crs w g l m) : w.frozen? ⟨g, 0, none⟩ = false := frozen_of_row w g 0 _ 83 h
theorem Crs.under {w w' : World} {g : Nat} {l : H.T} {m : Int} (h : Crs w g l m) (hb : Below w.heap.size w w') : Crs w' g l m := blk_under h hb
theorem Crs.set {w : World} {g : Nat} {l : H.T} {m : Int} (h : Crs w g l m) (r : H.T) : Crs (w.setCell ⟨g, 0, none⟩ (S r)) g r m := heap_setCell_same w g 0 _ 83 _ h
theorem set_grown (w : World) (g : Nat) (v : Value) : w.grownBy (w.setCell ⟨g, 0, none⟩ v) (some g) :=
  ⟨rfl, rfl, rfl, by simp [World.setCell], fun k _ hk => Below.heap_setCell w ⟨g, 0, none⟩ v k (fun e => hk (by rw [e]))⟩
theorem below_grown {w w' : World} (h : Below w.heap.size w w') (r : Option Nat) : w.grownBy w' r := ⟨h.os, h.tape, h.output, h.size, fun k hk _ => h.block k hk⟩
theorem grown_below {n : Nat} {w0 w w' : World} {g : Nat} (h0 : Below n w0 w) (h : w.grownBy w' (some g)) (hn : n ≤ g) (hg : g < w.heap.size) : Below n w0 w' :=
  ⟨h.os.trans h0.os, h.tape.trans h0.tape, h.output.trans h0.output, Nat.le_trans h0.size h.size, fun k hk => (h.block k (by omega) (by intro e; injection e with e; omega)).trans (h0.block k hk)⟩
theorem ext_take (l : H.T) (n : Nat) : (⟨l.toArray⟩ : ByteArray).extract 0 n = ⟨(l.take n).toArray⟩ := by rw [Lib.extract_eq]; simp
theorem ext_drop (l : H.T) (n : Nat) : (⟨l.toArray⟩ : ByteArray).extract n l.length = ⟨(l.drop n).toArray⟩ := by
  rw [Lib.extract_eq, List.take_of_length_le (by rw [List.length_drop]; exact Nat.le_refl _)]

theorem take_any (w : World) (g : Nat) (l : H.T) (most : Int) (n : Nat) (hc : Crs w g l most) (hn : n ≤ l.length) (hl : l.length ≤ 281474976710656) :
    Calls Tryz.prog 52 #[.pointer (some ⟨g, 0, none⟩), .int .i64 (n : Int)] w fun e w' => e = .returned (S (l.take n)) ∧ w' = w.setCell ⟨g, 0, none⟩ (S (l.drop n)) := by
  have c0 := hc.c0
  have f0 := hc.f0
  have hlt := hc.lt
  have h0 : (0 : Int) ≤ (n : Int) := by omega
  have h1 : (n : Int) ≤ (l.length : Int) := by omega
  have e1 := ext_take l n
  have e2 := ext_drop l n
  go_enter Tryz.func52, Tryz.ntmps52
  go_wp2
  go_ret
  exact ⟨rfl, rfl⟩
end Go.Proofs.YtomicdkmbgckkaaGreatDoor

/- HTTP: THE WALK OVER line. -/
namespace Go.Proofs.YtomicdkmbgckkaaGreatDoor
open Go.RowKit
set_option linter.unusedVariables false
set_option linter.unusedSimpArgs false
set_option maxRecDepth 100000

/-- how a method of a cursor ends -/
def Read {α : Type} (w : World) (g : Nat) (most : Int) (r : H.R α) (V : α → World → Value → Prop) (e : Ending) (w' : World) : Prop :=
  w.grownBy w' (some g) ∧ match r with
    | .ok (a, l) => ∃ v, e = .returned v ∧ V a w' v ∧ Crs w' g l most
    | .error c => e = pan c
theorem Read.err {α : Type} {w w' : World} {g : Nat} {most c : Int} {V : α → World → Value → Prop} (h : w.grownBy w' (some g)) : Read w g most (.error c : H.R α) V (pan c) w' := ⟨h, rfl⟩
theorem Read.ok {α : Type} {w w' : World} {g : Nat} {most : Int} {a : α} {l : H.T} {v : Value} {V : α → World → Value → Prop} (h : w.grownBy w' (some g)) (hv : V a w' v) (hc : Crs w' g l most) : Read w g most (.ok (a, l) : H.R α) V (.returned v) w' := ⟨h, v, rfl, hv, hc⟩
theorem idxB_cases (l : H.T) (c : UInt8) : Lib.indexByte l c = -1 ∨ ∃ n : Nat, Lib.indexByte l c = (n : Int) ∧ n < l.length := by
  induction l with
  | nil => exact .inl rfl
  | cons b t ih =>
    by_cases h : b = c
    · exact .inr ⟨0, by simp [Lib.indexByte, h], by simp⟩
    · rcases ih with h1 | ⟨n, h1, h2⟩
      · exact .inl (by simp [Lib.indexByte, h, h1])
      · exact .inr ⟨n + 1, by simp [Lib.indexByte, h, h1] <;> omega, by simp; exact h2⟩
theorem Crs.drawn {w : World} {g : Nat} {l : H.T} {m : Int} (h : Crs w g l m) (n : Nat) : Crs (w.drewN n) g l m := h.under (below_drewN' w n)
theorem grown_drawn (w : World) (n : Nat) (r : Option Nat) : w.grownBy (w.drewN n) r := below_grown (below_drewN' w n) r
set_option maxHeartbeats 1000000 in
theorem line_any (w : World) (g : Nat) (l : H.T) (most : Int) (hc : Crs w g l most) (hl : l.length ≤ 281474976710656) :
    Calls Tryz.prog 31 #[.pointer (some ⟨g, 0, none⟩)] w (Read w g most (H.line l) fun t _ v => v = S t) := by
  have c0 := hc.c0
  have f0 := hc.f0
  have hlt := hc.lt
  have hi := fun w => Tryz.strings_IndexByte ⟨(l.take 4098).toArray⟩ 10 w
  have hi10 : ((10 : Int).toNat.toUInt8) = 10 := rfl
  rw [hi10] at hi
  obtain ⟨k, hk⟩ : ∃ k : Int, min ((l.length : Nat) : Int) 4098 = k := ⟨_, rfl⟩
  have hk0 : 0 ≤ k := by omega
  have hk1 : k ≤ (l.length : Int) := by omega
  have e1 : (⟨l.toArray⟩ : ByteArray).extract 0 k.toNat = ⟨(l.take 4098).toArray⟩ := by
    rw [ext_take]
    congr 2
    rw [show k.toNat = min l.length 4098 from by omega]
    by_cases h : l.length ≤ 4098
    · rw [List.take_of_length_le (by omega), List.take_of_length_le (by omega)]
    · rw [show min l.length 4098 = 4098 from by omega]
  have hlen : (l.take 4098).length ≤ l.length := by rw [List.length_take]; omega
  obtain ⟨z, hz⟩ : ∃ z : Int, ((l.length : Nat) : Int) = z := ⟨_, rfl⟩
  rw [hz] at hk hk1
  rcases idxB_cases (l.take 4098) 10 with hI | ⟨n, hI, hn⟩
  · have hi' : ∀ w, Calls Tryz.prog 50 #[S (l.take 4098), .int .u8 10] w fun e w' => e = .returned (.int .i64 (-1)) ∧ w' = w := fun w => by have := hi w; rw [show (⟨(l.take 4098).toArray⟩ : ByteArray).data.toList = l.take 4098 from by simp, hI] at this; exact this
    clear hi
    by_cases hsm : l.length < 4098
    · have hv : H.line l = .error 14 := by unfold H.line; simp [hI, hsm]
      rw [hv]
      have hsm' : z < 4098 := by omega
      have hH := Lib.hid hc
      clear hc hv hsm hI
      go_enter Tryz.func31, Tryz.ntmps31
      go_wp2
      go_quiet ((exact (hi' _).mono fun e w'' h => ⟨h.1, _, h.2⟩))
      go_wp2_with (go_at_call 29; first | (with_reducible refine (unless_yes _ _).mono ?_; rintro e w' ⟨rfl, rfl⟩) | (with_reducible refine (unless_no _ _).mono ?_; rintro e w' ⟨rfl, rfl⟩))
      exact ⟨rfl, Read.err (grown_drawn _ _ _)⟩
    · have hv : H.line l = .error 4 := by unfold H.line; simp [hI, hsm]
      rw [hv]
      have Hq := Lib.hid (show decide (z < 4098) = false from by simp; omega)
      have hH := Lib.hid hc
      clear hc hv hsm hI
      go_enter Tryz.func31, Tryz.ntmps31
      go_wp2
      go_quiet ((exact (hi' _).mono fun e w'' h => ⟨h.1, _, h.2⟩))
      go_wp2_with (go_at_call 29; rw [Hq.out]; with_reducible refine (unless_no _ _).mono ?_; rintro e w' ⟨rfl, rfl⟩)
      exact ⟨rfl, Read.err (grown_drawn _ _ _)⟩
  · have hi' : ∀ w, Calls Tryz.prog 50 #[S (l.take 4098), .int .u8 10] w fun e w' => e = .returned (.int .i64 (n : Int)) ∧ w' = w := fun w => by have := hi w; rw [show (⟨(l.take 4098).toArray⟩ : ByteArray).data.toList = l.take 4098 from by simp, hI] at this; exact this
    clear hi
    have hn1 : n + 1 ≤ l.length := by omega
    have hn0 : (0 : Int) ≤ (n : Int) := by omega
    have hwr : IntKind.i64.wrap ((n : Int) + 1) = (n : Int) + 1 := by rw [IntKind.wrap_i64]; omega
    have hcs := fun w => Tryz.strings_CutSuffix ⟨(l.take (n + 1)).toArray⟩ ⟨#[13, 10]⟩ w (by rw [S_size, List.length_take]; omega)
    have hdl : (⟨(l.take (n + 1)).toArray⟩ : ByteArray).data.toList = l.take (n + 1) := by simp
    rw [hdl] at hcs
    have hH := Lib.hid hc
    have htk : ∀ m, Calls Tryz.prog 52 #[.pointer (some ⟨g, 0, none⟩), .int .i64 ((n : Int) + 1)] (w.drewN m) fun e w' => e = .returned (S (l.take (n + 1))) ∧ w' = (w.drewN m).setCell ⟨g, 0, none⟩ (S (l.drop (n + 1))) := fun m => take_any (w.drewN m) g l most (n + 1) (hH.out.drawn m) hn1 hl
    have hv : H.line l = if Lib.hasSuffix (l.take (n + 1)) [13, 10] then .ok (Lib.trimSuffix (l.take (n + 1)) [13, 10], l.drop (n + 1)) else .error 13 := by
      unfold H.line; simp [hI]
    rw [hv]
    clear hc hv hI hn
    obtain ⟨b, hb⟩ : ∃ b, Lib.hasSuffix (l.take (n + 1)) [13, 10] = b := ⟨_, rfl⟩
    have hcs' : ∀ w, Calls Tryz.prog 51 #[S (l.take (n + 1)), .string ⟨#[13, 10]⟩] w fun e w' => e = .returned (.tuple #[S (Lib.trimSuffix (l.take (n + 1)) [13, 10]), .bool b]) ∧ w' = w := fun w => by
      have := hcs w; rw [show (⟨#[13, 10]⟩ : ByteArray).data.toList = [13, 10] from rfl, hb] at this; exact this
    rw [hb]
    clear hcs hb hdl
    cases b with
    | true =>
      rw [if_pos rfl]
      go_enter Tryz.func31, Tryz.ntmps31
      go_wp2
      go_quiet ((exact (hi' _).mono fun e w'' h => ⟨h.1, _, h.2⟩))
      go_wp2_with (first | (go_at_call 29; with_reducible refine (unless_yes _ _).mono ?_; rintro e w' ⟨rfl, rfl⟩) | (go_at_call 52; refine (htk _).mono ?_; rintro e w' ⟨rfl, rfl⟩) | (go_at_call 51; refine (hcs' _).mono ?_; rintro e w' ⟨rfl, rfl⟩))
      go_ret
      exact Read.ok ((grown_drawn w nq _).trans (set_grown _ g _)) rfl ((hH.out.drawn nq).set _)
    | false =>
      rw [if_neg (by decide)]
      go_enter Tryz.func31, Tryz.ntmps31
      go_wp2
      go_quiet ((exact (hi' _).mono fun e w'' h => ⟨h.1, _, h.2⟩))
      go_wp2_with (first | (go_at_call 29; first | (with_reducible refine (unless_yes _ _).mono ?_; rintro e w' ⟨rfl, rfl⟩) | (with_reducible refine (unless_no _ _).mono ?_; rintro e w' ⟨rfl, rfl⟩)) | (go_at_call 52; refine (htk _).mono ?_; rintro e w' ⟨rfl, rfl⟩) | (go_at_call 51; refine (hcs' _).mono ?_; rintro e w' ⟨rfl, rfl⟩))
      exact ⟨rfl, Read.err ((grown_drawn w nq _).trans (set_grown _ g _))⟩
end Go.Proofs.YtomicdkmbgckkaaGreatDoor
