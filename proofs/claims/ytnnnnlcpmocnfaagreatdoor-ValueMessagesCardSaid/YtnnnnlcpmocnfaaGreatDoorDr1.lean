/- MESSAGES OF VALUES: the document's read, up to the kind that is told, WALKED. -/
import Derived.Test.YtnnnnlcpmocnfaaGreatDoorDm4
import Derived.Test.YtnnnnlcpmocnfaaGreatDoorRv8
import Derived.Test.YtnnnnlcpmocnfaaGreatDoorRread
import Derived.Test.YtnnnnlcpmocnfaaGreatDoorAt4
import Derived.Test.YtnnnnlcpmocnfaaGreatDoorUt2
import Derived.Outline
import Derived.WalkLawsBesides
import Derived.RegionTactic
import Derived.ChangeAlike
import Derived.Deep.Cut
namespace Go.Proofs.YtnnnnlcpmocnfaaGreatDoor
open Go.RowKit
set_option linter.unusedVariables false
set_option linter.unusedSimpArgs false
attribute [local go_sem] run_store_float

abbrev N0 : Value := .slice none 0 0
/-- the value that is told, its parts aside -/
def tl (t : Int × M.Fd) : V :=
  if t.1 = 1 then .mk 1 (BA t.2.s) false 0 0 [] [] else if t.1 = 2 then .mk 2 ⟨#[]⟩ ((t.2.n : Int) != 0) 0 0 [] [] else if t.1 = 3 then .mk 3 ⟨#[]⟩ false (IntKind.i64.wrap t.2.n) 0 [] []
  else if t.1 = 4 then .mk 4 ⟨#[]⟩ false 0 t.2.n [] [] else if t.1 = 5 then .mk 5 ⟨#[]⟩ false 0 0 [] [] else if t.1 = 6 then .mk 6 ⟨#[]⟩ false 0 0 [] [] else if t.1 = 7 then .mk 7 (BA t.2.s) false 0 0 [] []
  else .mk 0 ⟨#[]⟩ false 0 0 [] []
/-- the bytes of its parts -/
def ti (t : Int × M.Fd) : ByteArray := if t.1 = 5 ∨ t.1 = 6 then BA t.2.s else ⟨#[]⟩
theorem told_on {fs : List M.Fd} {k : Nat} {f : M.Fd} (h : fs[k]? = some f) (hk : ¬ kindOf f = 0) : toldOf (fs.take (k + 1)) = (kindOf f, f) := by rw [take_snoc_get h, toldOf_snoc, if_neg hk]
theorem told_off {fs : List M.Fd} {k : Nat} {f : M.Fd} (h : fs[k]? = some f) (hk : kindOf f = 0) : toldOf (fs.take (k + 1)) = toldOf (fs.take k) := by rw [take_snoc_get h, toldOf_snoc, if_pos hk]
/-- seven cells, and that they may be written -/
theorem boxf {w : World} {g : Nat} {a0 a1 a2 a3 a4 a5 a6 : Value} {t : TypeId} (h : w.heap[g]? = some (.cells #[a0, a1, a2, a3, a4, a5, a6] t (0, 0))) :
    (w.cell? ⟨g, 0, none⟩ = some a0 ∧ w.cell? ⟨g, 1, none⟩ = some a1 ∧ w.cell? ⟨g, 2, none⟩ = some a2 ∧ w.cell? ⟨g, 3, none⟩ = some a3 ∧ w.cell? ⟨g, 4, none⟩ = some a4 ∧ w.cell? ⟨g, 5, none⟩ = some a5 ∧ w.cell? ⟨g, 6, none⟩ = some a6) ∧
    w.frozen? ⟨g, 0, none⟩ = false ∧ w.frozen? ⟨g, 1, none⟩ = false ∧ w.frozen? ⟨g, 2, none⟩ = false ∧ w.frozen? ⟨g, 3, none⟩ = false ∧ w.frozen? ⟨g, 4, none⟩ = false ∧ w.frozen? ⟨g, 5, none⟩ = false ∧ w.frozen? ⟨g, 6, none⟩ = false :=
  ⟨⟨cell_of_row w g 0 _ t (0, 0) h, cell_of_row w g 1 _ t (0, 0) h, cell_of_row w g 2 _ t (0, 0) h, cell_of_row w g 3 _ t (0, 0) h, cell_of_row w g 4 _ t (0, 0) h, cell_of_row w g 5 _ t (0, 0) h, cell_of_row w g 6 _ t (0, 0) h⟩,
    frozen_of_row w g 0 _ t h, frozen_of_row w g 1 _ t h, frozen_of_row w g 2 _ t h, frozen_of_row w g 3 _ t h, frozen_of_row w g 4 _ t h, frozen_of_row w g 5 _ t h, frozen_of_row w g 6 _ t h⟩
/-- where the loop stands behind k fields; w1: the world at its start -/
structure TInv (fs : List M.Fd) (w1 : World) (k : Nat) (t : ByteArray) (wr : World) : Prop where
  str : t = ti (toldOf (fs.take k))
  box : wr.heap[w1.heap.size]? = some (.cells (cv (tl (toldOf (fs.take k))) N0 N0) 27 (0, 0))
  bel : Below w1.heap.size w1 wr
theorem tinv_off {fs : List M.Fd} {w1 : World} {k : Nat} {t : ByteArray} {wr X : World} {f : M.Fd} {o : Obj} (h : TInv fs w1 k t wr) (hf : fs[k]? = some f) (hk : kindOf f = 0) (hX : X = wr.alloc o) : TInv fs w1 (k + 1) t X := by
  subst hX
  exact ⟨by rw [told_off hf hk]; exact h.str, by rw [told_off hf hk]; exact blk_alloc h.box o, h.bel.alloc h.bel.size o⟩
theorem tinv_on {fs : List M.Fd} {w1 : World} {k : Nat} {t u : ByteArray} {wr X : World} {f : M.Fd} {j : Int} {o : Obj} (h : TInv fs w1 k t wr) (hf : fs[k]? = some f) (hX : X = wr.alloc o) (hj : kindOf f = j) (hj0 : ¬ j = 0) (ht : u = ti (j, f)) (a0 a1 a2 a3 a4 a5 a6 : Value)
    (ha : (#[a0, a1, a2, a3, a4, a5, a6] : Array Value) = cv (tl (j, f)) N0 N0) :
    TInv fs w1 (k + 1) u (((((((X.setCell ⟨w1.heap.size, 0, none⟩ a0).setCell ⟨w1.heap.size, 1, none⟩ a1).setCell ⟨w1.heap.size, 2, none⟩ a2).setCell ⟨w1.heap.size, 3, none⟩ a3).setCell ⟨w1.heap.size, 4, none⟩ a4).setCell ⟨w1.heap.size, 5, none⟩ a5).setCell ⟨w1.heap.size, 6, none⟩ a6) := by
  have ht' := told_on hf (by rw [hj]; exact hj0)
  rw [hj] at ht'
  subst hX
  refine ⟨by rw [ht']; exact ht, ?_, ?_⟩
  · rw [ht', ← ha]; exact put7 (blk_alloc h.box o) _ _ _ _ _ _ _
  · exact set7 (h.bel.alloc h.bel.size o) _ _ _ _ _ _ _
theorem tl_1 (f : M.Fd) : tl (1, f) = .mk 1 (BA f.s) false 0 0 [] [] := by simp [tl]
theorem tl_2 (f : M.Fd) : tl (2, f) = .mk 2 ⟨#[]⟩ ((f.n : Int) != 0) 0 0 [] [] := by simp [tl]
theorem tl_3 (f : M.Fd) : tl (3, f) = .mk 3 ⟨#[]⟩ false (IntKind.i64.wrap f.n) 0 [] [] := by simp [tl]
theorem tl_4 (f : M.Fd) : tl (4, f) = .mk 4 ⟨#[]⟩ false 0 f.n [] [] := by simp [tl]
theorem tl_5 (f : M.Fd) : tl (5, f) = .mk 5 ⟨#[]⟩ false 0 0 [] [] := by simp [tl]
theorem tl_6 (f : M.Fd) : tl (6, f) = .mk 6 ⟨#[]⟩ false 0 0 [] [] := by simp [tl]
theorem tl_7 (f : M.Fd) : tl (7, f) = .mk 7 (BA f.s) false 0 0 [] [] := by simp [tl]
theorem tl_0 (f : M.Fd) : tl (0, f) = .mk 0 ⟨#[]⟩ false 0 0 [] [] := by simp [tl]
theorem ti_56 {j : Int} (f : M.Fd) (h : j = 5 ∨ j = 6) : BA f.s = ti (j, f) := by unfold ti; rw [if_pos h]
theorem ti_no {j : Int} (f : M.Fd) (h : ¬ (j = 5 ∨ j = 6)) : (⟨#[]⟩ : ByteArray) = ti (j, f) := by unfold ti; rw [if_neg h]
theorem TInv.drew {fs : List M.Fd} {w1 : World} {k : Nat} {t : ByteArray} {wr : World} (h : TInv fs w1 k t wr) : TInv fs w1 k t wr.drew := ⟨h.str, h.box, h.bel.drew⟩
/-- what reading answers: never nought as an error -/
theorem read_no0 {s : List UInt8} {c : Nat} (h : M.read s = .error c) : ¬ (c : Int) = 0 := by
  unfold M.read at h
  by_cases h1 : 65536 < s.length
  · rw [if_pos h1] at h; injection h with h; omega
  · rw [if_neg h1] at h
    cases hp : M.parse s with
    | error e =>
      rw [hp] at h
      injection h with h
      have := M.parse_err_is _ s (Nat.le_refl _) e hp
      omega
    | ok fs =>
      rw [hp] at h
      dsimp only at h
      by_cases h2 : 4096 < fs.length
      · rw [if_pos h2] at h; injection h with h; omega
      · rw [if_neg h2] at h; cases h
theorem key_no0 {s : ByteArray} (h : ¬ keyErr s = 0) : ¬ keyErr s = 0 := h
def No0 (g : List UInt8 → Except Int V) : Prop := ∀ s c, g s = .error c → ¬ c = 0
theorem rpair_no0 {g : List UInt8 → Except Int V} (hg : No0 g) {s : List UInt8} {c : Int} (h : rpairG g s = .error c) : ¬ c = 0 := by
  unfold rpairG at h
  cases hr : M.read s with
  | error e => rw [hr] at h; injection h with h; subst h; exact read_no0 hr
  | ok fs =>
    rw [hr] at h
    dsimp only at h
    by_cases hk : keyErr (BA (strOf (lastOf 1 2 fs))) = 0
    · rw [if_pos hk] at h
      cases hx : g (strOf (lastOf 2 2 fs)) with
      | error e => rw [hx] at h; injection h with h; subst h; exact hg _ _ hx
      | ok x => rw [hx] at h; cases h
    · rw [if_neg hk] at h; injection h with h; rw [← h]; exact hk
theorem rlist_no0 {g : List UInt8 → Except Int V} (hg : No0 g) (fs : List M.Fd) : ∀ c, rlistG g fs = .error c → ¬ c = 0 := by
  refine rev_ind (P := fun fs => ∀ c, rlistG g fs = .error c → ¬ c = 0) (fun c h => by cases h) (fun l a ih c h => ?_) fs
  rw [rlistG_snoc] at h
  cases hl : rlistG g l with
  | error e => rw [hl] at h; injection h with h; subst h; exact ih _ hl
  | ok xs =>
    rw [hl] at h
    dsimp only at h
    cases hx : g a.s with
    | error e => rw [hx] at h; injection h with h; subst h; exact hg _ _ hx
    | ok x => rw [hx] at h; cases h
theorem rpairs_no0 {g : List UInt8 → Except Int V} (hg : No0 g) (fs : List M.Fd) : ∀ c, rpairsG g fs = .error c → ¬ c = 0 := by
  refine rev_ind (P := fun fs => ∀ c, rpairsG g fs = .error c → ¬ c = 0) (fun c h => by cases h) (fun l a ih c h => ?_) fs
  rw [rpairsG_snoc] at h
  cases hl : rpairsG g l with
  | error e => rw [hl] at h; injection h with h; subst h; exact ih _ hl
  | ok xs =>
    rw [hl] at h
    dsimp only at h
    cases hx : rpairG g a.s with
    | error e => rw [hx] at h; injection h with h; subst h; exact rpair_no0 hg hx
    | ok x => rw [hx] at h; cases h
theorem parts_no0 {s : List UInt8} {n : Nat} {c : Int} (h : partsR s n = .error c) : ¬ c = 0 := by
  unfold partsR at h
  cases hr : M.read s with
  | error e => rw [hr] at h; injection h with h; subst h; exact read_no0 hr
  | ok fs =>
    rw [hr] at h
    dsimp only at h
    by_cases h1 : 256 < (allOf 1 2 fs).length
    · rw [if_pos h1] at h; injection h with h; omega
    · rw [if_neg h1] at h
      by_cases h2 : n = 0
      · rw [if_pos h2] at h; injection h with h; omega
      · rw [if_neg h2] at h; cases h
theorem rbody_no0 {n : Nat} {g : List UInt8 → Except Int V} (hg : No0 g) : No0 (rbody n g) := by
  intro s c h
  unfold rbody at h
  cases hr : M.read s with
  | error e => rw [hr] at h; injection h with h; subst h; exact read_no0 hr
  | ok fs =>
    rw [hr] at h
    dsimp only at h
    generalize (toldOf fs).1 = k at h
    by_cases k1 : k = 1
    · rw [if_pos k1] at h
      by_cases hk : keyErr (BA (toldOf fs).2.s) = 0
      · rw [if_pos hk] at h; cases h
      · rw [if_neg hk] at h; injection h with h; rw [← h]; exact hk
    rw [if_neg k1] at h
    by_cases k2 : k = 2
    · rw [if_pos k2] at h; cases h
    rw [if_neg k2] at h
    by_cases k3 : k = 3
    · rw [if_pos k3] at h; cases h
    rw [if_neg k3] at h
    by_cases k4 : k = 4
    · rw [if_pos k4] at h; cases h
    rw [if_neg k4] at h
    by_cases k5 : k = 5
    · rw [if_pos k5] at h
      cases hp : partsR (toldOf fs).2.s n with
      | error e => rw [hp] at h; injection h with h; subst h; exact parts_no0 hp
      | ok ps =>
        rw [hp] at h
        dsimp only at h
        cases hl : rlistG g ps with
        | error e => rw [hl] at h; injection h with h; subst h; exact rlist_no0 hg ps _ hl
        | ok l => rw [hl] at h; cases h
    rw [if_neg k5] at h
    by_cases k6 : k = 6
    · rw [if_pos k6] at h
      cases hp : partsR (toldOf fs).2.s n with
      | error e => rw [hp] at h; injection h with h; subst h; exact parts_no0 hp
      | ok ps =>
        rw [hp] at h
        dsimp only at h
        cases hl : rpairsG g ps with
        | error e => rw [hl] at h; injection h with h; subst h; exact rpairs_no0 hg ps _ hl
        | ok l => rw [hl] at h; cases h
    rw [if_neg k6] at h
    by_cases k7 : k = 7
    · rw [if_pos k7] at h
      by_cases hl : (toldOf fs).2.s.length ≤ 4096
      · rw [if_pos hl] at h; cases h
      · rw [if_neg hl] at h; injection h with h; omega
    rw [if_neg k7] at h; cases h
theorem rmsg_no0 : ∀ n, No0 (rmsg n)
  | 0 => rbody_no0 (fun s c h => by injection h with h; omega)
  | n + 1 => rbody_no0 (rmsg_no0 n)

def DReadC (n : Nat) : Prop := ∀ (s : List UInt8) (w : World), s.length ≤ 9223372036854775807 → Calls Tryz.prog 24 #[.string ⟨s.toArray⟩, .int .i64 (8 - (n : Int))] w (rdvP (rmsg n s) w)
def DReadPC (n : Nat) : Prop := ∀ (s : List UInt8) (w : World), s.length ≤ 9223372036854775807 → Calls Tryz.prog 32 #[.string ⟨s.toArray⟩, .int .i64 (8 - (n : Int))] w (rdpP (rpairG (rmsg n) s) w)
theorem new_under {B : Nat} {w w' : World} {q1 q2 : Value} {x : V} (h : Rep (New B w) w q1 q2 x) (hb : Below w.heap.size w w') : Rep (New B w') w' q1 q2 x :=
  h.keep (Kept.of_below hb _) fun g hg hl => ⟨hg.1, hg.2.keep (hb.block g hl)⟩
theorem far_newW {W w1 : World} {base B : Nat} {v : Value} {es : List (V × Value × Value)} {r1 r2 : Value} {a : V} (hrow : VRow W base v es) (hr : Rep (New B w1) w1 r1 r2 a) (hB : W.heap.size ≤ B) (hb : base ≤ W.heap.size) : Rep (Far w1 base v.ownBlock) w1 r1 r2 a :=
  hr.keep (Kept.of_below (Below.refl _ _) _) fun g hg _ => ⟨by have := hg.1; omega, (fun e => by have := (hrow.lt g e).2; have hg' : B ≤ g := hg.1; omega), hg.2⟩
theorem part_s {s : List UInt8} {fs : List M.Fd} (h : M.read s = .ok fs) : ∀ f ∈ allOf 1 2 fs, f.s.length ≤ 65536 := fun f hf => read_s h f (List.mem_filter.1 hf).1
end Go.Proofs.YtnnnnlcpmocnfaaGreatDoor
