/- MESSAGES OF VALUES: Read, ReadPair, WALKED. -/
import Derived.Test.YtnnnnlcpmocnfaaGreatDoorRv7
import Derived.Test.YtnnnnlcpmocnfaaGreatDoorCk13
import Derived.Deep.Cut
import Derived.Outline
import Derived.WalkLawsBesides
import Derived.Deep.RegionLaw
import Derived.Deep.RegionHeld3
namespace Go.Proofs.YtnnnnlcpmocnfaaGreatDoor
open Go.RowKit
set_option linter.unusedVariables false
set_option linter.unusedSimpArgs false
attribute [local go_sem] run_store_float

theorem box8v {w : World} {g : Nat} {a0 a1 a2 a3 a4 a5 a6 a7 : Value} {t : TypeId} (h : w.heap[g]? = some (.cells #[a0, a1, a2, a3, a4, a5, a6, a7] t (0, 0))) :
    w.cell? ⟨g, 0, none⟩ = some a0 ∧ w.cell? ⟨g, 1, none⟩ = some a1 ∧ w.cell? ⟨g, 2, none⟩ = some a2 ∧ w.cell? ⟨g, 3, none⟩ = some a3 ∧ w.cell? ⟨g, 4, none⟩ = some a4 ∧ w.cell? ⟨g, 5, none⟩ = some a5 ∧ w.cell? ⟨g, 6, none⟩ = some a6 ∧ w.cell? ⟨g, 7, none⟩ = some a7 :=
  ⟨cell_of_row w g 0 _ t (0, 0) h, cell_of_row w g 1 _ t (0, 0) h, cell_of_row w g 2 _ t (0, 0) h, cell_of_row w g 3 _ t (0, 0) h, cell_of_row w g 4 _ t (0, 0) h, cell_of_row w g 5 _ t (0, 0) h, cell_of_row w g 6 _ t (0, 0) h, cell_of_row w g 7 _ t (0, 0) h⟩
theorem rep_one {w : World} {B : Nat} {a : Addr} {u : Value} {q1 q2 : Value} {x : V} (h : Rep (New B w) w q1 q2 x) (hg : a.block < B) : Rep (New B (w.setCell a u)) (w.setCell a u) q1 q2 x :=
  h.keep ⟨by simp [World.setCell], fun k hk _ => Below.heap_setCell _ _ _ k (by have : B ≤ k := hk.1; omega)⟩ (fun k hk _ => ⟨hk.1, hk.2.keep (Below.heap_setCell _ _ _ k (by have : B ≤ k := hk.1; omega))⟩)

theorem put7 {w : World} {g : Nat} {b0 b1 b2 b3 b4 b5 b6 : Value} {t : TypeId} (h : w.heap[g]? = some (.cells #[b0, b1, b2, b3, b4, b5, b6] t (0, 0))) (a0 a1 a2 a3 a4 a5 a6 : Value) : ((((((((w).setCell ⟨g, 0, none⟩ a0).setCell ⟨g, 1, none⟩ a1).setCell ⟨g, 2, none⟩ a2).setCell ⟨g, 3, none⟩ a3).setCell ⟨g, 4, none⟩ a4).setCell ⟨g, 5, none⟩ a5).setCell ⟨g, 6, none⟩ a6).heap[g]? = some (.cells #[a0, a1, a2, a3, a4, a5, a6] t (0, 0)) := by
  have s0 : ((w).setCell ⟨g, 0, none⟩ a0).heap[g]? = some (.cells #[a0, b1, b2, b3, b4, b5, b6] t (0, 0)) := heap_setCell_same _ g 0 _ t a0 h
  have s1 : (((w).setCell ⟨g, 0, none⟩ a0).setCell ⟨g, 1, none⟩ a1).heap[g]? = some (.cells #[a0, a1, b2, b3, b4, b5, b6] t (0, 0)) := heap_setCell_same _ g 1 _ t a1 s0
  have s2 : ((((w).setCell ⟨g, 0, none⟩ a0).setCell ⟨g, 1, none⟩ a1).setCell ⟨g, 2, none⟩ a2).heap[g]? = some (.cells #[a0, a1, a2, b3, b4, b5, b6] t (0, 0)) := heap_setCell_same _ g 2 _ t a2 s1
  have s3 : (((((w).setCell ⟨g, 0, none⟩ a0).setCell ⟨g, 1, none⟩ a1).setCell ⟨g, 2, none⟩ a2).setCell ⟨g, 3, none⟩ a3).heap[g]? = some (.cells #[a0, a1, a2, a3, b4, b5, b6] t (0, 0)) := heap_setCell_same _ g 3 _ t a3 s2
  have s4 : ((((((w).setCell ⟨g, 0, none⟩ a0).setCell ⟨g, 1, none⟩ a1).setCell ⟨g, 2, none⟩ a2).setCell ⟨g, 3, none⟩ a3).setCell ⟨g, 4, none⟩ a4).heap[g]? = some (.cells #[a0, a1, a2, a3, a4, b5, b6] t (0, 0)) := heap_setCell_same _ g 4 _ t a4 s3
  have s5 : (((((((w).setCell ⟨g, 0, none⟩ a0).setCell ⟨g, 1, none⟩ a1).setCell ⟨g, 2, none⟩ a2).setCell ⟨g, 3, none⟩ a3).setCell ⟨g, 4, none⟩ a4).setCell ⟨g, 5, none⟩ a5).heap[g]? = some (.cells #[a0, a1, a2, a3, a4, a5, b6] t (0, 0)) := heap_setCell_same _ g 5 _ t a5 s4
  have s6 : ((((((((w).setCell ⟨g, 0, none⟩ a0).setCell ⟨g, 1, none⟩ a1).setCell ⟨g, 2, none⟩ a2).setCell ⟨g, 3, none⟩ a3).setCell ⟨g, 4, none⟩ a4).setCell ⟨g, 5, none⟩ a5).setCell ⟨g, 6, none⟩ a6).heap[g]? = some (.cells #[a0, a1, a2, a3, a4, a5, a6] t (0, 0)) := heap_setCell_same _ g 6 _ t a6 s5
  exact s6
theorem oth7 {w : World} {g k : Nat} (hk : k ≠ g) (a0 a1 a2 a3 a4 a5 a6 : Value) : ((((((((w).setCell ⟨g, 0, none⟩ a0).setCell ⟨g, 1, none⟩ a1).setCell ⟨g, 2, none⟩ a2).setCell ⟨g, 3, none⟩ a3).setCell ⟨g, 4, none⟩ a4).setCell ⟨g, 5, none⟩ a5).setCell ⟨g, 6, none⟩ a6).heap[k]? = w.heap[k]? := by
  rw [Below.heap_setCell _ _ _ k hk, Below.heap_setCell _ _ _ k hk, Below.heap_setCell _ _ _ k hk, Below.heap_setCell _ _ _ k hk, Below.heap_setCell _ _ _ k hk, Below.heap_setCell _ _ _ k hk, Below.heap_setCell _ _ _ k hk]
theorem siz7 (w : World) (g : Nat) (a0 a1 a2 a3 a4 a5 a6 : Value) : ((((((((w).setCell ⟨g, 0, none⟩ a0).setCell ⟨g, 1, none⟩ a1).setCell ⟨g, 2, none⟩ a2).setCell ⟨g, 3, none⟩ a3).setCell ⟨g, 4, none⟩ a4).setCell ⟨g, 5, none⟩ a5).setCell ⟨g, 6, none⟩ a6).heap.size = w.heap.size := by simp [World.setCell]
theorem bel7 {w W : World} {B g : Nat} (h : Below B w W) (hB : B ≤ g) (a0 a1 a2 a3 a4 a5 a6 : Value) : Below B w ((((((((W).setCell ⟨g, 0, none⟩ a0).setCell ⟨g, 1, none⟩ a1).setCell ⟨g, 2, none⟩ a2).setCell ⟨g, 3, none⟩ a3).setCell ⟨g, 4, none⟩ a4).setCell ⟨g, 5, none⟩ a5).setCell ⟨g, 6, none⟩ a6) :=
  ((((((h.setCell hB _).setCell hB _).setCell hB _).setCell hB _).setCell hB _).setCell hB _).setCell hB _
theorem rep_put7 {w : World} {B g : Nat} {q1 q2 : Value} {x : V} (h : Rep (New B w) w q1 q2 x) (B' : Nat) (hB : B' ≤ B) (hg : g < B) (a0 a1 a2 a3 a4 a5 a6 : Value) : Rep (New B' ((((((((w).setCell ⟨g, 0, none⟩ a0).setCell ⟨g, 1, none⟩ a1).setCell ⟨g, 2, none⟩ a2).setCell ⟨g, 3, none⟩ a3).setCell ⟨g, 4, none⟩ a4).setCell ⟨g, 5, none⟩ a5).setCell ⟨g, 6, none⟩ a6)) ((((((((w).setCell ⟨g, 0, none⟩ a0).setCell ⟨g, 1, none⟩ a1).setCell ⟨g, 2, none⟩ a2).setCell ⟨g, 3, none⟩ a3).setCell ⟨g, 4, none⟩ a4).setCell ⟨g, 5, none⟩ a5).setCell ⟨g, 6, none⟩ a6) q1 q2 x :=
  h.keep ⟨by rw [siz7]; exact Nat.le_refl _, fun k hk _ => oth7 (by have : B ≤ k := hk.1; omega) _ _ _ _ _ _ _ ⟩ (fun k hk _ => ⟨by have : B ≤ k := hk.1; omega, hk.2.keep (oth7 (by have : B ≤ k := hk.1; omega) _ _ _ _ _ _ _ )⟩)

theorem put8 {w : World} {g : Nat} {b0 b1 b2 b3 b4 b5 b6 b7 : Value} {t : TypeId} (h : w.heap[g]? = some (.cells #[b0, b1, b2, b3, b4, b5, b6, b7] t (0, 0))) (a0 a1 a2 a3 a4 a5 a6 a7 : Value) : (((((((((w).setCell ⟨g, 0, none⟩ a0).setCell ⟨g, 1, none⟩ a1).setCell ⟨g, 2, none⟩ a2).setCell ⟨g, 3, none⟩ a3).setCell ⟨g, 4, none⟩ a4).setCell ⟨g, 5, none⟩ a5).setCell ⟨g, 6, none⟩ a6).setCell ⟨g, 7, none⟩ a7).heap[g]? = some (.cells #[a0, a1, a2, a3, a4, a5, a6, a7] t (0, 0)) := by
  have s0 : ((w).setCell ⟨g, 0, none⟩ a0).heap[g]? = some (.cells #[a0, b1, b2, b3, b4, b5, b6, b7] t (0, 0)) := heap_setCell_same _ g 0 _ t a0 h
  have s1 : (((w).setCell ⟨g, 0, none⟩ a0).setCell ⟨g, 1, none⟩ a1).heap[g]? = some (.cells #[a0, a1, b2, b3, b4, b5, b6, b7] t (0, 0)) := heap_setCell_same _ g 1 _ t a1 s0
  have s2 : ((((w).setCell ⟨g, 0, none⟩ a0).setCell ⟨g, 1, none⟩ a1).setCell ⟨g, 2, none⟩ a2).heap[g]? = some (.cells #[a0, a1, a2, b3, b4, b5, b6, b7] t (0, 0)) := heap_setCell_same _ g 2 _ t a2 s1
  have s3 : (((((w).setCell ⟨g, 0, none⟩ a0).setCell ⟨g, 1, none⟩ a1).setCell ⟨g, 2, none⟩ a2).setCell ⟨g, 3, none⟩ a3).heap[g]? = some (.cells #[a0, a1, a2, a3, b4, b5, b6, b7] t (0, 0)) := heap_setCell_same _ g 3 _ t a3 s2
  have s4 : ((((((w).setCell ⟨g, 0, none⟩ a0).setCell ⟨g, 1, none⟩ a1).setCell ⟨g, 2, none⟩ a2).setCell ⟨g, 3, none⟩ a3).setCell ⟨g, 4, none⟩ a4).heap[g]? = some (.cells #[a0, a1, a2, a3, a4, b5, b6, b7] t (0, 0)) := heap_setCell_same _ g 4 _ t a4 s3
  have s5 : (((((((w).setCell ⟨g, 0, none⟩ a0).setCell ⟨g, 1, none⟩ a1).setCell ⟨g, 2, none⟩ a2).setCell ⟨g, 3, none⟩ a3).setCell ⟨g, 4, none⟩ a4).setCell ⟨g, 5, none⟩ a5).heap[g]? = some (.cells #[a0, a1, a2, a3, a4, a5, b6, b7] t (0, 0)) := heap_setCell_same _ g 5 _ t a5 s4
  have s6 : ((((((((w).setCell ⟨g, 0, none⟩ a0).setCell ⟨g, 1, none⟩ a1).setCell ⟨g, 2, none⟩ a2).setCell ⟨g, 3, none⟩ a3).setCell ⟨g, 4, none⟩ a4).setCell ⟨g, 5, none⟩ a5).setCell ⟨g, 6, none⟩ a6).heap[g]? = some (.cells #[a0, a1, a2, a3, a4, a5, a6, b7] t (0, 0)) := heap_setCell_same _ g 6 _ t a6 s5
  have s7 : (((((((((w).setCell ⟨g, 0, none⟩ a0).setCell ⟨g, 1, none⟩ a1).setCell ⟨g, 2, none⟩ a2).setCell ⟨g, 3, none⟩ a3).setCell ⟨g, 4, none⟩ a4).setCell ⟨g, 5, none⟩ a5).setCell ⟨g, 6, none⟩ a6).setCell ⟨g, 7, none⟩ a7).heap[g]? = some (.cells #[a0, a1, a2, a3, a4, a5, a6, a7] t (0, 0)) := heap_setCell_same _ g 7 _ t a7 s6
  exact s7
theorem oth8 {w : World} {g k : Nat} (hk : k ≠ g) (a0 a1 a2 a3 a4 a5 a6 a7 : Value) : (((((((((w).setCell ⟨g, 0, none⟩ a0).setCell ⟨g, 1, none⟩ a1).setCell ⟨g, 2, none⟩ a2).setCell ⟨g, 3, none⟩ a3).setCell ⟨g, 4, none⟩ a4).setCell ⟨g, 5, none⟩ a5).setCell ⟨g, 6, none⟩ a6).setCell ⟨g, 7, none⟩ a7).heap[k]? = w.heap[k]? := by
  rw [Below.heap_setCell _ _ _ k hk, Below.heap_setCell _ _ _ k hk, Below.heap_setCell _ _ _ k hk, Below.heap_setCell _ _ _ k hk, Below.heap_setCell _ _ _ k hk, Below.heap_setCell _ _ _ k hk, Below.heap_setCell _ _ _ k hk, Below.heap_setCell _ _ _ k hk]
theorem siz8 (w : World) (g : Nat) (a0 a1 a2 a3 a4 a5 a6 a7 : Value) : (((((((((w).setCell ⟨g, 0, none⟩ a0).setCell ⟨g, 1, none⟩ a1).setCell ⟨g, 2, none⟩ a2).setCell ⟨g, 3, none⟩ a3).setCell ⟨g, 4, none⟩ a4).setCell ⟨g, 5, none⟩ a5).setCell ⟨g, 6, none⟩ a6).setCell ⟨g, 7, none⟩ a7).heap.size = w.heap.size := by simp [World.setCell]
theorem bel8 {w W : World} {B g : Nat} (h : Below B w W) (hB : B ≤ g) (a0 a1 a2 a3 a4 a5 a6 a7 : Value) : Below B w (((((((((W).setCell ⟨g, 0, none⟩ a0).setCell ⟨g, 1, none⟩ a1).setCell ⟨g, 2, none⟩ a2).setCell ⟨g, 3, none⟩ a3).setCell ⟨g, 4, none⟩ a4).setCell ⟨g, 5, none⟩ a5).setCell ⟨g, 6, none⟩ a6).setCell ⟨g, 7, none⟩ a7) :=
  (((((((h.setCell hB _).setCell hB _).setCell hB _).setCell hB _).setCell hB _).setCell hB _).setCell hB _).setCell hB _
theorem rep_put8 {w : World} {B g : Nat} {q1 q2 : Value} {x : V} (h : Rep (New B w) w q1 q2 x) (B' : Nat) (hB : B' ≤ B) (hg : g < B) (a0 a1 a2 a3 a4 a5 a6 a7 : Value) : Rep (New B' (((((((((w).setCell ⟨g, 0, none⟩ a0).setCell ⟨g, 1, none⟩ a1).setCell ⟨g, 2, none⟩ a2).setCell ⟨g, 3, none⟩ a3).setCell ⟨g, 4, none⟩ a4).setCell ⟨g, 5, none⟩ a5).setCell ⟨g, 6, none⟩ a6).setCell ⟨g, 7, none⟩ a7)) (((((((((w).setCell ⟨g, 0, none⟩ a0).setCell ⟨g, 1, none⟩ a1).setCell ⟨g, 2, none⟩ a2).setCell ⟨g, 3, none⟩ a3).setCell ⟨g, 4, none⟩ a4).setCell ⟨g, 5, none⟩ a5).setCell ⟨g, 6, none⟩ a6).setCell ⟨g, 7, none⟩ a7) q1 q2 x :=
  h.keep ⟨by rw [siz8]; exact Nat.le_refl _, fun k hk _ => oth8 (by have : B ≤ k := hk.1; omega) _ _ _ _ _ _ _ _ ⟩ (fun k hk _ => ⟨by have : B ≤ k := hk.1; omega, hk.2.keep (oth8 (by have : B ≤ k := hk.1; omega) _ _ _ _ _ _ _ _ )⟩)

/-- what Read answers -/
def readR (s : List UInt8) : Except Int V := rmsg 8 s
def readPR (s : List UInt8) : Except Int (ByteArray × V) := rpairG (rmsg 8) s

/-- what the closure of rdv leaves -/
def rdvClo (h : Nat) (r : Except Int V) (w : World) (e : Ending) (w' : World) : Prop :=
  match r with
  | .error c => e = pan31 c ∧ Below w.heap.size w w'
  | .ok x => e = .returned (.tuple #[]) ∧ ∃ r1 r2 w2, Rep (New w.heap.size w2) w2 r1 r2 x ∧ Below w.heap.size w w2 ∧ w' = (((((((w2).setCell ⟨h, 0, none⟩ (.int .u8 x.k)).setCell ⟨h, 1, none⟩ (.string x.s)).setCell ⟨h, 2, none⟩ (.bool x.b)).setCell ⟨h, 3, none⟩ (.int .i64 x.n)).setCell ⟨h, 4, none⟩ (.float .f64 x.f)).setCell ⟨h, 5, none⟩ r1).setCell ⟨h, 6, none⟩ r2
set_option maxRecDepth 100000 in
set_option maxHeartbeats 2000000 in
theorem rdv_clo (s : List UInt8) (w : World) (g h : Nat) (hT : Tabs w) (hs : s.length ≤ 9223372036854775807) (hlh : h < w.heap.size) (hlg : g < w.heap.size) (hg : w.heap[g]? = some (.cells #[.string ⟨s.toArray⟩] 9 (0, 0))) (hh : w.heap[h]? = some (.cells #[.int .u8 0, .string ⟨#[]⟩, .bool false, .int .i64 0, .float .f64 0, .slice none 0 0, .slice none 0 0] 27 (0, 0))) :
    Calls Tryz.prog 22 #[.pointer (some ⟨g, 0, none⟩), .pointer (some ⟨h, 0, none⟩)] w (rdvClo h (readR s) w) := by
  have kg := cell_of_one hg
  have Hc := Lib.hid (show Calls Tryz.prog 23 #[.string ⟨s.toArray⟩, .int .i64 0] w (RPost (readR s) w) from (read_all 8 (by decide) s w hT hs))
  have Hh := Lib.hid hh
  have Hlh := Lib.hid hlh
  clear hT hs hg hh hlg hlh
  cases hm : readR s with
  | error c =>
    rw [hm] at Hc
    clear hm
    go_enter Tryz.func22, Tryz.ntmps22
    go_wp2_with fail
    refine (Hc.out).mono ?_
    rintro e w1 ⟨rfl, hb1⟩
    exact ⟨rfl, by exact ⟨rfl, hb1⟩⟩
  | ok x =>
    rw [hm] at Hc
    clear hm
    go_enter Tryz.func22, Tryz.ntmps22
    go_wp2_with fail
    refine (Hc.out).mono ?_
    rintro e w1 ⟨r1, r2, rfl, hr1, hb1⟩
    obtain ⟨u1, v1, rfl, _⟩ := hr1.parts.2.1.form
    obtain ⟨u2, v2, rfl, _⟩ := hr1.parts.2.2.form
    have Hr1 := Lib.hid hr1
    have Hb1 := Lib.hid hb1
    obtain ⟨⟨h0, h1, h2, h3, h4, h5, h6⟩, g0, g1, g2, g3, g4, g5, g6⟩ := zero_box ((hb1.block h Hlh.out).trans Hh.out)
    clear hr1 hb1 kg
    go_wp2
    go_returns
    exact ⟨rfl, _, _, _, Hr1.out, Hb1.out, rfl⟩

/-- what the closure of rdp leaves -/
def rdpClo (h : Nat) (r : Except Int (ByteArray × V)) (w : World) (e : Ending) (w' : World) : Prop :=
  match r with
  | .error c => e = pan31 c ∧ Below w.heap.size w w'
  | .ok x => e = .returned (.tuple #[]) ∧ ∃ r1 r2 w2, x.1.size ≤ 140737488353000 ∧ Rep (New w.heap.size w2) w2 r1 r2 x.2 ∧ Below w.heap.size w w2 ∧ w' = ((((((((w2).setCell ⟨h, 0, none⟩ (.string x.1)).setCell ⟨h, 1, none⟩ (.int .u8 x.2.k)).setCell ⟨h, 2, none⟩ (.string x.2.s)).setCell ⟨h, 3, none⟩ (.bool x.2.b)).setCell ⟨h, 4, none⟩ (.int .i64 x.2.n)).setCell ⟨h, 5, none⟩ (.float .f64 x.2.f)).setCell ⟨h, 6, none⟩ r1).setCell ⟨h, 7, none⟩ r2
set_option maxRecDepth 100000 in
set_option maxHeartbeats 2000000 in
theorem rdp_clo (s : List UInt8) (w : World) (g h : Nat) (hT : Tabs w) (hs : s.length ≤ 9223372036854775807) (hlh : h < w.heap.size) (hlg : g < w.heap.size) (hg : w.heap[g]? = some (.cells #[.string ⟨s.toArray⟩] 9 (0, 0))) (hh : w.heap[h]? = some (.cells #[.string ⟨#[]⟩, .int .u8 0, .string ⟨#[]⟩, .bool false, .int .i64 0, .float .f64 0, .slice none 0 0, .slice none 0 0] 29 (0, 0))) :
    Calls Tryz.prog 30 #[.pointer (some ⟨g, 0, none⟩), .pointer (some ⟨h, 0, none⟩)] w (rdpClo h (readPR s) w) := by
  have kg := cell_of_one hg
  have Hc := Lib.hid (show Calls Tryz.prog 31 #[.string ⟨s.toArray⟩, .int .i64 0] w (RPairP (readPR s) w) from (rpair_all 8 (by decide) s w hT hs))
  have Hh := Lib.hid hh
  have Hlh := Lib.hid hlh
  clear hT hs hg hh hlg hlh
  cases hm : readPR s with
  | error c =>
    rw [hm] at Hc
    clear hm
    go_enter Tryz.func30, Tryz.ntmps30
    go_wp2_with fail
    refine (Hc.out).mono ?_
    rintro e w1 ⟨rfl, hb1⟩
    exact ⟨rfl, by exact ⟨rfl, hb1⟩⟩
  | ok x =>
    rw [hm] at Hc
    clear hm
    go_enter Tryz.func30, Tryz.ntmps30
    go_wp2_with fail
    refine (Hc.out).mono ?_
    rintro e w1 ⟨hsz, r1, r2, rfl, hr1, hb1⟩
    obtain ⟨u1, v1, rfl, _⟩ := hr1.parts.2.1.form
    obtain ⟨u2, v2, rfl, _⟩ := hr1.parts.2.2.form
    have Hr1 := Lib.hid hr1
    have Hb1 := Lib.hid hb1
    have Hsz := Lib.hid hsz
    obtain ⟨⟨h0, h1, h2, h3, h4, h5, h6, h7⟩, g0, g1, g2, g3, g4, g5, g6, g7⟩ := zero_box8 ((hb1.block h Hlh.out).trans Hh.out)
    clear hr1 hb1 kg hsz
    go_wp2
    go_returns
    exact ⟨rfl, _, _, _, Hsz.out, Hr1.out, Hb1.out, rfl⟩

/-- what rdv answers -/
def rdvP (r : Except Int V) (w : World) (e : Ending) (w' : World) : Prop :=
  match r with
  | .error c => e = .returned (.tuple #[.agg #[.int .u8 0, .string ⟨#[]⟩, .bool false, .int .i64 0, .float .f64 0, .slice none 0 0, .slice none 0 0], .int .i64 c]) ∧ Below w.heap.size w w'
  | .ok x => ∃ r1 r2, e = .returned (.tuple #[.agg (cv x r1 r2), .int .i64 0]) ∧ Rep (New w.heap.size w') w' r1 r2 x ∧ Below w.heap.size w w'
set_option maxRecDepth 100000 in
set_option maxHeartbeats 4000000 in
theorem rdv_any2 (s : List UInt8) (w : World) (hT : Tabs w) (hs : s.length ≤ 9223372036854775807) : Calls Tryz.prog 7 #[.string ⟨s.toArray⟩] w (rdvP (readR s) w) := by
  have hmf : ∀ (fn : Fn) (first cap : Array Value) (w : World), (Instr.makeFunc fn first cap).run Tryz.prog w = .ok (.func fn first cap) w := fun _ _ _ _ => rfl
  obtain ⟨W, hW⟩ : ∃ W, W = ((w.alloc (.cells #[.string ⟨s.toArray⟩] 9)).alloc (.cells #[.int .u8 0, .string ⟨#[]⟩, .bool false, .int .i64 0, .float .f64 0, .slice none 0 0, .slice none 0 0] 27)).alloc (.cells #[.int .u8 0, .string ⟨#[]⟩, .bool false, .int .i64 0, .float .f64 0, .slice none 0 0, .slice none 0 0] 27) := ⟨_, rfl⟩
  have hsz : W.heap.size = w.heap.size + 3 := by rw [hW]; simp
  have hbW : Below w.heap.size w W := by rw [hW]; go_grown
  have hbY : Below w.heap.size w (W.alloc (.cells #[.int .i64 0] 31)) := hbW.trans ((al W _).mono (by omega))
  have hg : (W.alloc (.cells #[.int .i64 0] 31)).heap[w.heap.size]? = some (.cells #[.string ⟨s.toArray⟩] 9 (0, 0)) := by rw [hW]; exact blk_alloc (blk_alloc (blk_alloc (blk_new w _) _) _) _
  have hr : (W.alloc (.cells #[.int .i64 0] 31)).heap[w.heap.size + 1]? = some (.cells #[.int .u8 0, .string ⟨#[]⟩, .bool false, .int .i64 0, .float .f64 0, .slice none 0 0, .slice none 0 0] 27 (0, 0)) := by rw [hW]; exact blk_alloc (blk_alloc (blk_at (by simp)) _) _
  have hh : (W.alloc (.cells #[.int .i64 0] 31)).heap[w.heap.size + 2]? = some (.cells #[.int .u8 0, .string ⟨#[]⟩, .bool false, .int .i64 0, .float .f64 0, .slice none 0 0, .slice none 0 0] 27 (0, 0)) := by rw [hW]; exact blk_alloc (blk_at (by simp)) _
  have hcl := rdv_clo s (W.alloc (.cells #[.int .i64 0] 31)) w.heap.size (w.heap.size + 2) (hT.under hbY) hs (by simp; omega) (by simp; omega) hg hh
  have h31 : ∀ w2, Below (W.alloc (.cells #[.int .i64 0] 31)).heap.size (W.alloc (.cells #[.int .i64 0] 31)) w2 → w2.heap[W.heap.size]? = some (.cells #[.int .i64 0] 31 (0, 0)) := fun w2 hb => (hb.block _ (by simp)).trans (blk_new W _)
  have hres : ∀ w2, Below (W.alloc (.cells #[.int .i64 0] 31)).heap.size (W.alloc (.cells #[.int .i64 0] 31)) w2 → w2.heap[w.heap.size + 1]? = some (.cells #[.int .u8 0, .string ⟨#[]⟩, .bool false, .int .i64 0, .float .f64 0, .slice none 0 0, .slice none 0 0] 27 (0, 0)) := fun w2 hb => (hb.block _ (by simp; omega)).trans hr
  have hvar : ∀ w2, Below (W.alloc (.cells #[.int .i64 0] 31)).heap.size (W.alloc (.cells #[.int .i64 0] 31)) w2 → w2.heap[w.heap.size + 2]? = some (.cells #[.int .u8 0, .string ⟨#[]⟩, .bool false, .int .i64 0, .float .f64 0, .slice none 0 0, .slice none 0 0] 27 (0, 0)) := fun w2 hb => (hb.block _ (by simp; omega)).trans hh
  have hbw : ∀ w2, Below (W.alloc (.cells #[.int .i64 0] 31)).heap.size (W.alloc (.cells #[.int .i64 0] 31)) w2 → Below w.heap.size w w2 := fun w2 hb => hbY.trans (hb.mono (by simp; omega))
  have hs4 : (W.alloc (.cells #[.int .i64 0] 31)).heap.size = w.heap.size + 4 := by simp; omega
  cases hm : readR s with
  | error c =>
    rw [hm] at hcl
    have hca := caught_no W 22 #[.pointer (some ⟨w.heap.size, 0, none⟩), .pointer (some ⟨w.heap.size + 2, 0, none⟩)]
      (fun w1 => w1.heap[w.heap.size + 1]? = some (.cells #[.int .u8 0, .string ⟨#[]⟩, .bool false, .int .i64 0, .float .f64 0, .slice none 0 0, .slice none 0 0] 27 (0, 0)) ∧ w1.heap[w.heap.size + 2]? = some (.cells #[.int .u8 0, .string ⟨#[]⟩, .bool false, .int .i64 0, .float .f64 0, .slice none 0 0, .slice none 0 0] 27 (0, 0)) ∧ Below w.heap.size w w1) c (fun W => by kernel_rfl) (hcl.mono fun en w' h => by
        obtain ⟨he, hb⟩ := h
        exact ⟨he, h31 w' hb, hres w' hb, hvar w' hb, hbw w' hb⟩)
    have Hca := Lib.hid hca
    have HW := Lib.hid hW
    have Hsz := Lib.hid hsz
    clear hca hcl hg hh hr h31 hres hvar hbw hT hs hm hbW hbY hsz hW hs4
    go_enter Tryz.func7, Tryz.ntmps7
    go_upto_region 2 with (fail)
    rw [← HW.out]
    go_wp2_with fail
    refine (Hca.out).mono ?_
    rintro e w' ⟨rfl, w1, ⟨hres, hvar, hb⟩, hy, rfl⟩
    rw [Hsz.out] at hy ⊢
    obtain ⟨W5, hW5⟩ : ∃ W5, W5 = w1.setCell ⟨w.heap.size + 3, 0, none⟩ (.int .i64 c) := ⟨_, rfl⟩
    rw [← hW5]
    obtain ⟨⟨h0, h1, h2, h3, h4, h5, h6⟩, g0, g1, g2, g3, g4, g5, g6⟩ := zero_box (show W5.heap[w.heap.size + 1]? = some (.cells #[.int .u8 0, .string ⟨#[]⟩, .bool false, .int .i64 0, .float .f64 0, .slice none 0 0, .slice none 0 0] 27 (0, 0)) by rw [hW5, Below.heap_setCell _ _ _ _ (by simp)]; exact hres)
    obtain ⟨k0, k1, k2, k3, k4, k5, k6⟩ := box7v (show W5.heap[w.heap.size + 2]? = some (.cells #[.int .u8 0, .string ⟨#[]⟩, .bool false, .int .i64 0, .float .f64 0, .slice none 0 0, .slice none 0 0] 27 (0, 0)) by rw [hW5, Below.heap_setCell _ _ _ _ (by simp)]; exact hvar)
    have Hb := Lib.hid (show Below w.heap.size w W5 by rw [hW5]; exact hb.setCell (p := ⟨w.heap.size + 3, 0, none⟩) (by simp <;> omega) (.int .i64 c))
    clear hb hres hvar hy hW5
    go_wp2
    refine bodyPost_ret (v := .tuple #[.agg #[.int .u8 0, .string ⟨#[]⟩, .bool false, .int .i64 0, .float .f64 0, .slice none 0 0, .slice none 0 0], .int .i64 c]) (by simp [results, Tryz.results7, go_sem, h0, h1, h2, h3, h4, h5, h6]) rfl ?_
    exact ⟨rfl, bel7 Hb.out (by omega) _ _ _ _ _ _ _ ⟩
  | ok x =>
    rw [hm] at hcl
    have hca := caught_ok W 22 #[.pointer (some ⟨w.heap.size, 0, none⟩), .pointer (some ⟨w.heap.size + 2, 0, none⟩)]
      (fun w1 => ∃ r1 r2, w1.heap[w.heap.size + 1]? = some (.cells #[.int .u8 0, .string ⟨#[]⟩, .bool false, .int .i64 0, .float .f64 0, .slice none 0 0, .slice none 0 0] 27 (0, 0)) ∧ w1.heap[w.heap.size + 2]? = some (.cells (cv x r1 r2) 27 (0, 0)) ∧ Rep (New (w.heap.size + 4) w1) w1 r1 r2 x ∧ Below w.heap.size w w1) (fun W => by kernel_rfl) (hcl.mono fun en w' h => by
        obtain ⟨he, r1, r2, w2, hrep, hb, rfl⟩ := h
        rw [hs4] at hrep
        refine ⟨he, ?_, r1, r2, ?_, put7 (hvar w2 hb) _ _ _ _ _ _ _, ?_, ?_⟩
        · exact (oth7 (by omega) _ _ _ _ _ _ _ ).trans (h31 w2 hb)
        · exact (oth7 (by omega) _ _ _ _ _ _ _ ).trans (hres w2 hb)
        · exact rep_put7 hrep _ (Nat.le_refl _) (by omega) _ _ _ _ _ _ _ 
        · exact bel7 (hbw w2 hb) (by omega) _ _ _ _ _ _ _ )
    have Hca := Lib.hid hca
    have HW := Lib.hid hW
    have Hsz := Lib.hid hsz
    clear hca hcl hg hh hr h31 hres hvar hbw hT hs hm hbW hbY hsz hW hs4
    go_enter Tryz.func7, Tryz.ntmps7
    go_upto_region 2 with (fail)
    rw [← HW.out]
    go_wp2_with fail
    refine (Hca.out).mono ?_
    rintro e w' ⟨rfl, w1, ⟨r1, r2, hres, hvar, hrep, hb⟩, hy, rfl⟩
    obtain ⟨u1, v1, rfl, _⟩ := hrep.parts.2.1.form
    obtain ⟨u2, v2, rfl, _⟩ := hrep.parts.2.2.form
    rw [Hsz.out] at hy ⊢
    obtain ⟨W5, hW5⟩ : ∃ W5, W5 = w1.setCell ⟨w.heap.size + 3, 0, none⟩ (.int .i64 0) := ⟨_, rfl⟩
    rw [← hW5]
    obtain ⟨⟨h0, h1, h2, h3, h4, h5, h6⟩, g0, g1, g2, g3, g4, g5, g6⟩ := zero_box (show W5.heap[w.heap.size + 1]? = some (.cells #[.int .u8 0, .string ⟨#[]⟩, .bool false, .int .i64 0, .float .f64 0, .slice none 0 0, .slice none 0 0] 27 (0, 0)) by rw [hW5, Below.heap_setCell _ _ _ _ (by simp)]; exact hres)
    obtain ⟨k0, k1, k2, k3, k4, k5, k6⟩ := box7v ((show W5.heap[w.heap.size + 2]? = w1.heap[w.heap.size + 2]? by rw [hW5, Below.heap_setCell _ _ _ _ (by simp)]).trans hvar)
    have Hb := Lib.hid (show Below w.heap.size w W5 by rw [hW5]; exact hb.setCell (p := ⟨w.heap.size + 3, 0, none⟩) (by simp <;> omega) (.int .i64 0))
    have Hrep := Lib.hid (show Rep (New (w.heap.size + 4) W5) W5 _ _ x by rw [hW5]; exact rep_one hrep (by simp))
    skip
    clear hb hres hvar hy hW5 hrep
    go_wp2
    refine bodyPost_ret (v := .tuple #[.agg (cv x (.slice u1 x.l.length v1) (.slice u2 x.p.length v2)), .int .i64 0]) (by simp [results, Tryz.results7, go_sem, h0, h1, h2, h3, h4, h5, h6]) rfl ?_
    exact ⟨_, _, rfl, rep_put7 Hrep.out _ (by omega) (by omega) _ _ _ _ _ _ _ , bel7 Hb.out (by omega) _ _ _ _ _ _ _ ⟩

/-- what rdp answers -/
def rdpP (r : Except Int (ByteArray × V)) (w : World) (e : Ending) (w' : World) : Prop :=
  match r with
  | .error c => e = .returned (.tuple #[.agg #[.string ⟨#[]⟩, .int .u8 0, .string ⟨#[]⟩, .bool false, .int .i64 0, .float .f64 0, .slice none 0 0, .slice none 0 0], .int .i64 c]) ∧ Below w.heap.size w w'
  | .ok x => ∃ r1 r2, x.1.size ≤ 140737488353000 ∧ e = .returned (.tuple #[.agg (pv x.1 x.2 r1 r2), .int .i64 0]) ∧ Rep (New w.heap.size w') w' r1 r2 x.2 ∧ Below w.heap.size w w'
set_option maxRecDepth 100000 in
set_option maxHeartbeats 4000000 in
theorem rdp_any2 (s : List UInt8) (w : World) (hT : Tabs w) (hs : s.length ≤ 9223372036854775807) : Calls Tryz.prog 11 #[.string ⟨s.toArray⟩] w (rdpP (readPR s) w) := by
  have hmf : ∀ (fn : Fn) (first cap : Array Value) (w : World), (Instr.makeFunc fn first cap).run Tryz.prog w = .ok (.func fn first cap) w := fun _ _ _ _ => rfl
  obtain ⟨W, hW⟩ : ∃ W, W = ((w.alloc (.cells #[.string ⟨s.toArray⟩] 9)).alloc (.cells #[.string ⟨#[]⟩, .int .u8 0, .string ⟨#[]⟩, .bool false, .int .i64 0, .float .f64 0, .slice none 0 0, .slice none 0 0] 29)).alloc (.cells #[.string ⟨#[]⟩, .int .u8 0, .string ⟨#[]⟩, .bool false, .int .i64 0, .float .f64 0, .slice none 0 0, .slice none 0 0] 29) := ⟨_, rfl⟩
  have hsz : W.heap.size = w.heap.size + 3 := by rw [hW]; simp
  have hbW : Below w.heap.size w W := by rw [hW]; go_grown
  have hbY : Below w.heap.size w (W.alloc (.cells #[.int .i64 0] 31)) := hbW.trans ((al W _).mono (by omega))
  have hg : (W.alloc (.cells #[.int .i64 0] 31)).heap[w.heap.size]? = some (.cells #[.string ⟨s.toArray⟩] 9 (0, 0)) := by rw [hW]; exact blk_alloc (blk_alloc (blk_alloc (blk_new w _) _) _) _
  have hr : (W.alloc (.cells #[.int .i64 0] 31)).heap[w.heap.size + 1]? = some (.cells #[.string ⟨#[]⟩, .int .u8 0, .string ⟨#[]⟩, .bool false, .int .i64 0, .float .f64 0, .slice none 0 0, .slice none 0 0] 29 (0, 0)) := by rw [hW]; exact blk_alloc (blk_alloc (blk_at (by simp)) _) _
  have hh : (W.alloc (.cells #[.int .i64 0] 31)).heap[w.heap.size + 2]? = some (.cells #[.string ⟨#[]⟩, .int .u8 0, .string ⟨#[]⟩, .bool false, .int .i64 0, .float .f64 0, .slice none 0 0, .slice none 0 0] 29 (0, 0)) := by rw [hW]; exact blk_alloc (blk_at (by simp)) _
  have hcl := rdp_clo s (W.alloc (.cells #[.int .i64 0] 31)) w.heap.size (w.heap.size + 2) (hT.under hbY) hs (by simp; omega) (by simp; omega) hg hh
  have h31 : ∀ w2, Below (W.alloc (.cells #[.int .i64 0] 31)).heap.size (W.alloc (.cells #[.int .i64 0] 31)) w2 → w2.heap[W.heap.size]? = some (.cells #[.int .i64 0] 31 (0, 0)) := fun w2 hb => (hb.block _ (by simp)).trans (blk_new W _)
  have hres : ∀ w2, Below (W.alloc (.cells #[.int .i64 0] 31)).heap.size (W.alloc (.cells #[.int .i64 0] 31)) w2 → w2.heap[w.heap.size + 1]? = some (.cells #[.string ⟨#[]⟩, .int .u8 0, .string ⟨#[]⟩, .bool false, .int .i64 0, .float .f64 0, .slice none 0 0, .slice none 0 0] 29 (0, 0)) := fun w2 hb => (hb.block _ (by simp; omega)).trans hr
  have hvar : ∀ w2, Below (W.alloc (.cells #[.int .i64 0] 31)).heap.size (W.alloc (.cells #[.int .i64 0] 31)) w2 → w2.heap[w.heap.size + 2]? = some (.cells #[.string ⟨#[]⟩, .int .u8 0, .string ⟨#[]⟩, .bool false, .int .i64 0, .float .f64 0, .slice none 0 0, .slice none 0 0] 29 (0, 0)) := fun w2 hb => (hb.block _ (by simp; omega)).trans hh
  have hbw : ∀ w2, Below (W.alloc (.cells #[.int .i64 0] 31)).heap.size (W.alloc (.cells #[.int .i64 0] 31)) w2 → Below w.heap.size w w2 := fun w2 hb => hbY.trans (hb.mono (by simp; omega))
  have hs4 : (W.alloc (.cells #[.int .i64 0] 31)).heap.size = w.heap.size + 4 := by simp; omega
  cases hm : readPR s with
  | error c =>
    rw [hm] at hcl
    have hca := caught_no W 30 #[.pointer (some ⟨w.heap.size, 0, none⟩), .pointer (some ⟨w.heap.size + 2, 0, none⟩)]
      (fun w1 => w1.heap[w.heap.size + 1]? = some (.cells #[.string ⟨#[]⟩, .int .u8 0, .string ⟨#[]⟩, .bool false, .int .i64 0, .float .f64 0, .slice none 0 0, .slice none 0 0] 29 (0, 0)) ∧ w1.heap[w.heap.size + 2]? = some (.cells #[.string ⟨#[]⟩, .int .u8 0, .string ⟨#[]⟩, .bool false, .int .i64 0, .float .f64 0, .slice none 0 0, .slice none 0 0] 29 (0, 0)) ∧ Below w.heap.size w w1) c (fun W => by kernel_rfl) (hcl.mono fun en w' h => by
        obtain ⟨he, hb⟩ := h
        exact ⟨he, h31 w' hb, hres w' hb, hvar w' hb, hbw w' hb⟩)
    have Hca := Lib.hid hca
    have HW := Lib.hid hW
    have Hsz := Lib.hid hsz
    clear hca hcl hg hh hr h31 hres hvar hbw hT hs hm hbW hbY hsz hW hs4
    go_enter Tryz.func11, Tryz.ntmps11
    go_upto_region 2 with (fail)
    rw [← HW.out]
    go_wp2_with fail
    refine (Hca.out).mono ?_
    rintro e w' ⟨rfl, w1, ⟨hres, hvar, hb⟩, hy, rfl⟩
    rw [Hsz.out] at hy ⊢
    obtain ⟨W5, hW5⟩ : ∃ W5, W5 = w1.setCell ⟨w.heap.size + 3, 0, none⟩ (.int .i64 c) := ⟨_, rfl⟩
    rw [← hW5]
    obtain ⟨⟨h0, h1, h2, h3, h4, h5, h6, h7⟩, g0, g1, g2, g3, g4, g5, g6, g7⟩ := zero_box8 (show W5.heap[w.heap.size + 1]? = some (.cells #[.string ⟨#[]⟩, .int .u8 0, .string ⟨#[]⟩, .bool false, .int .i64 0, .float .f64 0, .slice none 0 0, .slice none 0 0] 29 (0, 0)) by rw [hW5, Below.heap_setCell _ _ _ _ (by simp)]; exact hres)
    obtain ⟨k0, k1, k2, k3, k4, k5, k6, k7⟩ := box8v (show W5.heap[w.heap.size + 2]? = some (.cells #[.string ⟨#[]⟩, .int .u8 0, .string ⟨#[]⟩, .bool false, .int .i64 0, .float .f64 0, .slice none 0 0, .slice none 0 0] 29 (0, 0)) by rw [hW5, Below.heap_setCell _ _ _ _ (by simp)]; exact hvar)
    have Hb := Lib.hid (show Below w.heap.size w W5 by rw [hW5]; exact hb.setCell (p := ⟨w.heap.size + 3, 0, none⟩) (by simp <;> omega) (.int .i64 c))
    clear hb hres hvar hy hW5
    go_wp2
    refine bodyPost_ret (v := .tuple #[.agg #[.string ⟨#[]⟩, .int .u8 0, .string ⟨#[]⟩, .bool false, .int .i64 0, .float .f64 0, .slice none 0 0, .slice none 0 0], .int .i64 c]) (by simp [results, Tryz.results11, go_sem, h0, h1, h2, h3, h4, h5, h6, h7]) rfl ?_
    exact ⟨rfl, bel8 Hb.out (by omega) _ _ _ _ _ _ _ _ ⟩
  | ok x =>
    rw [hm] at hcl
    have hca := caught_ok W 30 #[.pointer (some ⟨w.heap.size, 0, none⟩), .pointer (some ⟨w.heap.size + 2, 0, none⟩)]
      (fun w1 => ∃ r1 r2, x.1.size ≤ 140737488353000 ∧ w1.heap[w.heap.size + 1]? = some (.cells #[.string ⟨#[]⟩, .int .u8 0, .string ⟨#[]⟩, .bool false, .int .i64 0, .float .f64 0, .slice none 0 0, .slice none 0 0] 29 (0, 0)) ∧ w1.heap[w.heap.size + 2]? = some (.cells (pv x.1 x.2 r1 r2) 29 (0, 0)) ∧ Rep (New (w.heap.size + 4) w1) w1 r1 r2 x.2 ∧ Below w.heap.size w w1) (fun W => by kernel_rfl) (hcl.mono fun en w' h => by
        obtain ⟨he, r1, r2, w2, hsx, hrep, hb, rfl⟩ := h
        rw [hs4] at hrep
        refine ⟨he, ?_, r1, r2, hsx, ?_, put8 (hvar w2 hb) _ _ _ _ _ _ _ _, ?_, ?_⟩
        · exact (oth8 (by omega) _ _ _ _ _ _ _ _ ).trans (h31 w2 hb)
        · exact (oth8 (by omega) _ _ _ _ _ _ _ _ ).trans (hres w2 hb)
        · exact rep_put8 hrep _ (Nat.le_refl _) (by omega) _ _ _ _ _ _ _ _ 
        · exact bel8 (hbw w2 hb) (by omega) _ _ _ _ _ _ _ _ )
    have Hca := Lib.hid hca
    have HW := Lib.hid hW
    have Hsz := Lib.hid hsz
    clear hca hcl hg hh hr h31 hres hvar hbw hT hs hm hbW hbY hsz hW hs4
    go_enter Tryz.func11, Tryz.ntmps11
    go_upto_region 2 with (fail)
    rw [← HW.out]
    go_wp2_with fail
    refine (Hca.out).mono ?_
    rintro e w' ⟨rfl, w1, ⟨r1, r2, hsx, hres, hvar, hrep, hb⟩, hy, rfl⟩
    obtain ⟨u1, v1, rfl, _⟩ := hrep.parts.2.1.form
    obtain ⟨u2, v2, rfl, _⟩ := hrep.parts.2.2.form
    rw [Hsz.out] at hy ⊢
    obtain ⟨W5, hW5⟩ : ∃ W5, W5 = w1.setCell ⟨w.heap.size + 3, 0, none⟩ (.int .i64 0) := ⟨_, rfl⟩
    rw [← hW5]
    obtain ⟨⟨h0, h1, h2, h3, h4, h5, h6, h7⟩, g0, g1, g2, g3, g4, g5, g6, g7⟩ := zero_box8 (show W5.heap[w.heap.size + 1]? = some (.cells #[.string ⟨#[]⟩, .int .u8 0, .string ⟨#[]⟩, .bool false, .int .i64 0, .float .f64 0, .slice none 0 0, .slice none 0 0] 29 (0, 0)) by rw [hW5, Below.heap_setCell _ _ _ _ (by simp)]; exact hres)
    obtain ⟨k0, k1, k2, k3, k4, k5, k6, k7⟩ := box8v ((show W5.heap[w.heap.size + 2]? = w1.heap[w.heap.size + 2]? by rw [hW5, Below.heap_setCell _ _ _ _ (by simp)]).trans hvar)
    have Hb := Lib.hid (show Below w.heap.size w W5 by rw [hW5]; exact hb.setCell (p := ⟨w.heap.size + 3, 0, none⟩) (by simp <;> omega) (.int .i64 0))
    have Hrep := Lib.hid (show Rep (New (w.heap.size + 4) W5) W5 _ _ x.2 by rw [hW5]; exact rep_one hrep (by simp))
    have Hsx := Lib.hid hsx
    clear hb hres hvar hy hW5 hrep hsx
    go_wp2
    refine bodyPost_ret (v := .tuple #[.agg (pv x.1 x.2 (.slice u1 x.2.l.length v1) (.slice u2 x.2.p.length v2)), .int .i64 0]) (by simp [results, Tryz.results11, go_sem, h0, h1, h2, h3, h4, h5, h6, h7]) rfl ?_
    exact ⟨_, _, Hsx.out, rfl, rep_put8 Hrep.out _ (by omega) (by omega) _ _ _ _ _ _ _ _ , bel8 Hb.out (by omega) _ _ _ _ _ _ _ _ ⟩
end Go.Proofs.YtnnnnlcpmocnfaaGreatDoor
