/- THE WALKS OVER slices.Clone at files, begin, comes, changeOf. -/
import Derived.Test.YtcefhcailhediaaFnd
namespace Go.Proofs.Ytcefhcailhediaa
open Go.RowKit
set_option linter.unusedVariables false
set_option linter.unusedSimpArgs false

theorem Try.info46 : (Try.prog.info? 46).map (fun i => (i.zero, i.size, i.bytes)) = some (some (.agg #[.string ⟨#[]⟩, .string ⟨#[]⟩, .int .i64 0]), 3, 40) := by kernel_rfl
theorem src_cells {w w' : World} {B : Nat} {a : Addr} {fs : List F} (hf : Fls w B (some a) fs) (hb : Below B w w') : ∀ j u, (fs.flatMap fc)[j]? = some u → w'.cell? (a.add j) = some u := by
  intro j u hu
  have hne : fs ≠ [] := by rintro rfl; simp at hu
  obtain ⟨g, off, e, hg, hc⟩ := hf.cells hne
  injection e with e
  subst e
  rw [Addr.add_lit]
  exact (hb.cell (p := ⟨g, off + j, none⟩) hg).trans (hc j u hu)
set_option maxHeartbeats 1000000 in
theorem clone_some (w : World) (a : Addr) (cap n : Nat) (fs : List F) (hn : n = fs.length) (hf : Fls w w.heap.size (some a) fs) (h64 : n ≤ 1000) :
    Calls Try.prog 40 #[.slice (some a) n cap] w fun e w' => ∃ v, e = .returned v ∧ FRow w' w.heap.size v fs ∧ Below w.heap.size w w' := by
  obtain ⟨i0, hi, hz0, hz1, hz2⟩ := info_parts Try.info46
  have hnews := src_cells hf ((Below.refl _ w).alloc (Nat.le_refl _) (.cells #[] 46))
  have Hnews := Lib.hid hnews
  have hl : (fs.flatMap fc).length = n * 3 := by rw [hn]; exact fc_len fs
  have Hl := Lib.hid hl
  have Hn := Lib.hid hn
  clear hn hnews hl
  have hown := World.ownsRow_lit (base := w.heap.size) (e := 46) (size := 3) w #[] 0 (Nat.le_refl _) (by simp [maxLen]) rfl
  have Hown := Lib.hid hown
  clear hown
  have hq : ∀ W, (binOp .eql 22 (.slice (some a) n cap) (.slice none 0 0)).run Try.prog W = .ok (.bool false) W := fun W => by kernel_rfl
  go_enter Try.func40, Try.ntmps40
  go_wp2_with (at_builtin; refine wpList_append_own_at _ rfl _ _ 22 rfl w.heap.size 46 i0 _ 3 40 Try.underlying22 hi hz0 hz1 hz2 rfl (by decide) (.slice (some ⟨w.heap.size, 0, none⟩) 0 0) 0 _ rfl Hown.out a n cap (fs.flatMap fc) rfl Hl.out Hnews.out (fc_one fs) (by simp [maxLen]; omega) (by omega) (by simp) ?_)
  intro v' w' h1 h2 _ _
  have Hb := Lib.hid (((Below.refl w.heap.size w).alloc (Nat.le_refl _) (.cells #[] 46)).grown h2 (by simp) (fun k hk => by simp [Value.ownBlock] at hk; omega))
  have Hr := Lib.hid (show FRow w' w.heap.size v' fs by have := h1; rw [Hn.out] at this; exact this)
  clear h1 h2
  go_wp2
  go_ret
  exact ⟨v', rfl, Hr.out, Hb.out⟩
theorem clone_nil (w : World) : Calls Try.prog 40 #[.slice none 0 0] w fun e w' => e = .returned (.slice none 0 0) ∧ w = w' := by
  have hq : ∀ W, (binOp .eql 22 (.slice none 0 0) (.slice none 0 0)).run Try.prog W = .ok (.bool true) W := fun W => by kernel_rfl
  go_enter Try.func40, Try.ntmps40
  go_wp2
  go_ret
  exact ⟨rfl, rfl⟩
/-- a slice of files that came in -/
def Inp (w : World) (B : Nat) (ad : Option Addr) (n cap : Nat) (fs : List F) : Prop := n = fs.length ∧ n ≤ cap ∧ (ad = none → cap = 0) ∧ Fls w B ad fs
theorem Inp.keep {w w' : World} {B : Nat} {ad : Option Addr} {n cap : Nat} {fs : List F} (h : Inp w B ad n cap fs) (hb : Below B w w') : Inp w' B ad n cap fs := ⟨h.1, h.2.1, h.2.2.1, h.2.2.2.keep hb⟩
theorem Inp.mono {w : World} {B B' : Nat} {ad : Option Addr} {n cap : Nat} {fs : List F} (h : Inp w B ad n cap fs) (hb : B ≤ B') : Inp w B' ad n cap fs := ⟨h.1, h.2.1, h.2.2.1, h.2.2.2.mono hb⟩
theorem clone_any (w : World) (ad : Option Addr) (cap n : Nat) (fs : List F) (hi : Inp w w.heap.size ad n cap fs) (h64 : n ≤ 1000) :
    Calls Try.prog 40 #[.slice ad n cap] w fun e w' => ∃ v, e = .returned v ∧ FRow w' w.heap.size v fs ∧ Below w.heap.size w w' := by
  obtain ⟨hn, hc, hnil, hf⟩ := hi
  cases ad with
  | some a => exact clone_some w a cap n fs hn hf h64
  | none =>
    have hc0 := hnil rfl
    subst hc0
    obtain rfl : n = 0 := by omega
    have hx : fs = [] := List.eq_nil_of_length_eq_zero hn.symm
    subst hx
    exact (clone_nil w).mono fun e w' ⟨h1, h2⟩ => ⟨_, h1, World.ownsRow_nil _ _ _ _, by rw [h2]; exact Below.refl _ _⟩

theorem FRow.not_new {w : World} {base : Nat} {v : Value} {fs : List F} (h : FRow w base v fs) : v.ownBlock = none ∨ v.ownBlock ≠ none ∧ ∀ k, v.ownBlock = some k → k < w.heap.size := by
  cases e : v.ownBlock with
  | none => exact .inl rfl
  | some k => exact .inr ⟨by simp, fun j hj => by injection hj with hj; subst hj; exact (h.lt k e).2⟩
theorem FRow.form {w : World} {base : Nat} {v : Value} {fs : List F} (h : FRow w base v fs) : ∃ ad cap, v = .slice ad fs.length cap := by
  obtain ⟨ad, cap, h1, _⟩ := h.fls; exact ⟨ad, cap, h1⟩
theorem FRow.set_far {w : World} {base : Nat} {v : Value} {fs : List F} (h : FRow w base v fs) {g o : Nat} (u : Value) (hne : v.ownBlock ≠ some g) : FRow (w.setCell ⟨g, o, none⟩ u) base v fs :=
  h.kept (row := some g) ⟨rfl, rfl, rfl, by simp [World.setCell], fun k _ hk => Below.heap_setCell w _ u k (by intro e; exact hk (by rw [e]))⟩ (.inr hne)
set_option maxHeartbeats 1000000 in
/-- begin: the disk, its list its own -/
theorem begin_any (w : World) (ad : Option Addr) (cap n : Nat) (down : Bool) (fuse fault : Int) (fs : List F) (hi : Inp w w.heap.size ad n cap fs) (h64 : n ≤ 1000) :
    Calls Try.prog 27 #[.agg (dcells (.slice ad n cap) down fuse fault)] w fun e w' => ∃ g v, e = .returned (.pointer (some ⟨g, 0, none⟩)) ∧ Dk w' g 64 v down fuse fault ∧ FRow w' w.heap.size v fs ∧ v.ownBlock ≠ some g ∧ w.heap.size ≤ g ∧ Below w.heap.size w w' := by
  have Hi := Lib.hid hi; clear hi
  go_enter Try.func27, Try.ntmps27
  go_wp2_with fail
  refine (clone_any _ ad cap n fs ((Hi.out.keep ((Below.refl _ w).alloc (Nat.le_refl _) _)).mono (by simp)) h64).mono ?_
  rintro e w1 ⟨v, rfl, hr, hb⟩
  have hD : Dk w1 w.heap.size 24 (.slice ad n cap) down fuse fault := Dk.keep (blk_new w _) hb (by simp)
  obtain ⟨ad1, cap1, hv⟩ := hr.form
  subst hv
  obtain ⟨⟨d0, d1, d2, d3⟩, ⟨f0, f1, f2, f3⟩⟩ := hD.facts
  have hne : (Value.slice ad1 fs.length cap1).ownBlock ≠ some w.heap.size := fun e => by have := (hr.lt _ e).1; simp at this; omega
  have hlt := hD.lt
  have Hr := Lib.hid (hr.set_far (o := 0) (.slice ad1 fs.length cap1) hne)
  have Hb := Lib.hid (((Below.refl w.heap.size w).alloc (Nat.le_refl _) (.cells (dcells (.slice ad n cap) down fuse fault) 24)).trans (hb.mono (by simp)))
  have hnew : ∀ k, (Value.slice ad1 fs.length cap1).ownBlock = some k → k < w1.heap.size := fun k hk => (hr.lt k hk).2
  have Hnew := Lib.hid hnew
  clear hr hb hD hne hnew
  go_wp2
  go_ret
  refine ⟨w1.heap.size, .slice ad1 fs.length cap1, rfl, ?_, ?_, ?_, ?_, ?_⟩
  · have := blk_new (w1.setCell ⟨w.heap.size, 0, none⟩ (.slice ad1 fs.length cap1)) (.cells (dcells (.slice ad1 fs.length cap1) down fuse fault) 64)
    simpa [Dk] using this
  · exact (World.ownsRow.mono Hr.out (by simp)).alloc _
  · intro e; have := Hnew.out _ e; omega
  · have := Hb.out.size; omega
  · exact ((Hb.out.setCell (by simp) _).alloc (by simp [World.setCell]; have := Hb.out.size; omega) _)
end Go.Proofs.Ytcefhcailhediaa
