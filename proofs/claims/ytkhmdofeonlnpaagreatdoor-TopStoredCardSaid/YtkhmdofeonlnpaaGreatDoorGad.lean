/- THE WALK OVER Check. -/
import Derived.Test.YtkhmdofeonlnpaaGreatDoorGac
import Derived.IntWalk
import Derived.Laws.Cover1
namespace Go.Proofs.YtkhmdofeonlnpaaGreatDoor
open Go.RowKit
set_option linter.unusedVariables false
set_option linter.unusedSimpArgs false
/-- a disk's cells -/
abbrev dcells (v : Value) (down : Bool) (fuse fault : Int) : Array Value := #[v, .bool down, .int .i64 fuse, .int .i64 fault]
/-- block g holds a disk -/
def Dk (w : World) (g T : Nat) (v : Value) (down : Bool) (fuse fault : Int) : Prop := w.heap[g]? = some (.cells (dcells v down fuse fault) T (0, 0))
section
variable {w w' : World} {B g T : Nat} {v : Value} {down : Bool} {fuse fault : Int}
theorem Dk.keep (h : Dk w g T v down fuse fault) (hb : Below B w w') (hg : g < B) : Dk w' g T v down fuse fault := (hb.block g hg).trans h
theorem Dk.lt (h : Dk w g T v down fuse fault) : g < w.heap.size := (Array.getElem?_eq_some_iff.1 h).1
theorem Dk.facts (h : Dk w g T v down fuse fault) :
    (w.cell? ⟨g, 0, none⟩ = some v ∧ w.cell? ⟨g, 1, none⟩ = some (.bool down) ∧ w.cell? ⟨g, 2, none⟩ = some (.int .i64 fuse) ∧ w.cell? ⟨g, 3, none⟩ = some (.int .i64 fault)) ∧
    w.frozen? ⟨g, 0, none⟩ = false ∧ w.frozen? ⟨g, 1, none⟩ = false ∧ w.frozen? ⟨g, 2, none⟩ = false ∧ w.frozen? ⟨g, 3, none⟩ = false :=
  ⟨⟨cell_of_row w g 0 _ T (0, 0) h, cell_of_row w g 1 _ T (0, 0) h, cell_of_row w g 2 _ T (0, 0) h, cell_of_row w g 3 _ T (0, 0) h⟩,
    frozen_of_row w g 0 _ T h, frozen_of_row w g 1 _ T h, frozen_of_row w g 2 _ T h, frozen_of_row w g 3 _ T h⟩
end
theorem blk_new (w : World) (o : Obj) : (w.alloc o).heap[w.heap.size]? = some o := heap_alloc_new w o
theorem blk_alloc {w : World} {g : Nat} {o : Obj} (h : w.heap[g]? = some o) (o' : Obj) : (w.alloc o').heap[g]? = some o := (Below.heap_alloc w o' g (Array.getElem?_eq_some_iff.1 h).1).trans h

theorem check_long (w : World) (ad : Option Addr) (cap n : Nat) (down : Bool) (fuse fault : Int) (h : 64 < n) :
    Calls Tryz.prog 23 #[.agg (dcells (.slice ad n cap) down fuse fault)] w fun e w' => e = .returned (.int .i64 6) ∧ Below w.heap.size w w' := by
  go_enter Tryz.func23, Tryz.ntmps23
  go_wp2
  go_ret
  exact ⟨rfl, (Below.refl _ _).alloc (Nat.le_refl _) _⟩

/-- the first k files are right -/
def GoodTo (fs : List F) (k : Nat) : Prop := ∀ i, i < k → good fs i
theorem GoodTo.succ {fs : List F} {k : Nat} (h : GoodTo fs k) (hg : good fs k) : GoodTo fs (k + 1) := fun i hi => by
  by_cases e : i = k
  · subst e; exact hg
  · exact h i (by omega)

set_option maxHeartbeats 4000000 in
theorem check_short (w : World) (ad : Option Addr) (cap n : Nat) (down : Bool) (fuse fault : Int) (fs : List F) (r : Int) (hn : n = fs.length) (h64 : n ≤ 64) (hf : Fls w w.heap.size ad fs) (hfit : ∀ f ∈ fs, Fit f)
    (hr0 : Right fs → r = 0) (hr6 : ¬ Right fs → r = 6) :
    Calls Tryz.prog 23 #[.agg (dcells (.slice ad n cap) down fuse fault)] w fun e w' => e = .returned (.int .i64 r) ∧ Below w.heap.size w w' := by
  have h64' : ¬ 64 < n := by omega
  have Hr0 := Lib.hid hr0; clear hr0
  have Hr6' := Lib.hid hr6; clear hr6
  have Hn := Lib.hid hn; clear hn
  have Hf := Lib.hid hf; clear hf
  have Hfit := Lib.hid hfit; clear hfit
  go_enter Tryz.func23, Tryz.ntmps23
  go_wp2
  go_loopw [12] (fun i wr => ∃ (k : Nat), i = .int .i64 (k : Int) ∧ k ≤ n ∧ Below w.heap.size w wr ∧ Dk wr w.heap.size 24 (.slice ad n cap) down fuse fault ∧ GoodTo fs k) (fun i _ => n - (intOf i).toNat)
  case atStart => exact ⟨0, rfl, by omega, (Below.refl _ _).alloc (Nat.le_refl _) _, blk_new w _, fun i hi => by omega⟩
  case round =>
    obtain ⟨k, rfl, hk, hbel, hD, hG⟩ := hrel
    obtain ⟨⟨d0, d1, d2, d3⟩, _⟩ := hD.facts
    have Hbel := Lib.hid hbel; clear hbel
    have HD := Lib.hid hD; clear hD
    have HG := Lib.hid hG; clear hG
    by_cases hlt : k < n
    · have hne : fs ≠ [] := by rintro rfl; have := Hn.out; simp at this; omega
      obtain ⟨g, off, rfl, hg, hi⟩ := (Hf.out.keep Hbel.out) hne
      obtain ⟨f, hf⟩ : ∃ f, fs[k]? = some f := ⟨fs[k]'(by have := Hn.out; omega), by simp⟩
      obtain ⟨q0, q1, q2⟩ := hi k f hf
      have hfit := Hfit.out f (List.mem_of_getElem? hf)
      obtain ⟨b, hb⟩ : ∃ b, okFB ⟨f.name, f.data, f.syn⟩ = b := ⟨_, rfl⟩
      have hF : ∀ W, Calls Tryz.prog 63 #[.agg (fcells f.name f.data f.syn)] W fun e w' => e = .returned (.bool b) ∧ W.alloc (.cells (fcells f.name f.data f.syn) 107) = w' := fun W => by rw [← hb]; exact isFile_any _ _ _ W hfit
      have HF2 := Lib.hid (fun W => (hF W).mono fun e w' h => (⟨h.1, by rw [← h.2]; exact (Below.refl _ _).alloc (Nat.le_refl _) _⟩ : e = .returned (.bool b) ∧ Below W.heap.size W w'))
      have HX := Lib.hid (box3 (heap_new wr (.cells (fcells f.name f.data f.syn) 107)))
      have HB := Lib.hid (show Dk (wr.alloc (.cells (fcells f.name f.data f.syn) 107)) w.heap.size 24 (.slice (some ⟨g, off, none⟩) n cap) down fuse fault from blk_alloc HD.out _)
      have Hb := Lib.hid hb
      clear hF hfit hb
      cases b with
      | false =>
        have Hr6 := Lib.hid (Hr6'.out (fun hR => by have := decide_eq_true (p := okF ⟨f.name, f.data, f.syn⟩) (hR.2 k (by have := Hn.out; omega) f hf).1; have e := Hb.out; unfold okFB at e; rw [this] at e; cases e))
        clear hi hf
        go_wp2
        refine wp_region_any (by kernel_rfl) ?_
        obtain ⟨X9, hX⟩ : ∃ X, (wr.alloc (.cells (fcells f.name f.data f.syn) 107)).drew = X := ⟨_, rfl⟩
        change wpAny _ _ _ _ _ _ _ ((wr.alloc (.cells (fcells f.name f.data f.syn) 107)).drew)
        rw [hX]
        obtain ⟨z0, z1, z2⟩ := HX.out
        have HBX := Lib.hid (show Dk X9 w.heap.size 24 (.slice (some ⟨g, off, none⟩) n cap) down fuse fault by rw [← hX]; exact HB.out)
        have yD := HBX.out.facts.1.1
        have hBX : Below w.heap.size w X9 := by rw [← hX]; exact (Hbel.out.alloc Hbel.out.size (.cells (fcells f.name f.data f.syn) 107)).drew
        have HBl := Lib.hid hBX
        replace z0 : X9.cell? ⟨wr.heap.size, 0, none⟩ = some (.string f.name) := by rw [← hX]; exact z0
        replace z1 : X9.cell? ⟨wr.heap.size, 1, none⟩ = some (.string f.data) := by rw [← hX]; exact z1
        replace z2 : X9.cell? ⟨wr.heap.size, 2, none⟩ = some (.int .i64 f.syn) := by rw [← hX]; exact z2
        clear hX hBX q0 q1 q2 d0 d1 d2 d3
        refine wpAny_ready (rs := [0]) (by kernel_rfl) (by simp) ?_
        refine AllReady.cons rfl (fun K hK => ?_) AllReady.nil
        go_simp
        refine hK _ _ ?_
        clear hK K
        refine wpAny_ready (rs := [1]) (by kernel_rfl) (by simp) ?_
        refine AllReady.cons rfl (fun K hK => ?_) AllReady.nil
        go_simp
        go_at_call 63
        refine (HF2.out _).mono ?_
        rintro e w8 ⟨rfl, hb8⟩
        have hDn := Lib.hid (HBX.out.keep hb8 HBX.out.lt)
        have hBn := Lib.hid (HBl.out.trans (hb8.mono HBl.out.size))
        clear hb8 z0 z1 z2 yD
        refine hK _ _ ?_
        clear hK K
        refine wpAny_take (i := 2) (v := ?va1) rfl (by kernel_rfl) (by kernel_rfl) (by kernel_rfl) (fun _ _ _ h => h) (Or.inl ⟨by kernel_rfl, ?ha1⟩) ?ra1
        case ha1 => (intro w; go_simp; first | done | (with_reducible rfl))
        refine wpAny_take (i := 3) (v := ?va2) rfl (by kernel_rfl) (by kernel_rfl) (by kernel_rfl) (fun _ _ _ h => h) (Or.inl ⟨by kernel_rfl, ?ha2⟩) ?ra2
        case ha2 => (intro w; go_simp; first | done | (with_reducible rfl))
        refine wpAny_take (i := 4) (v := undef) rfl (by kernel_rfl) (by kernel_rfl) (by kernel_rfl) (fun _ _ _ h => h) (Or.inr ⟨by kernel_rfl, rfl⟩) ?_
        refine wpAny_take (i := 5) (v := undef) rfl (by kernel_rfl) (by kernel_rfl) (by kernel_rfl) (fun _ _ _ h => h) (Or.inr ⟨by kernel_rfl, rfl⟩) ?_
        refine wpAny_take (i := 6) (v := undef) rfl (by kernel_rfl) (by kernel_rfl) (by kernel_rfl) (fun _ _ _ h => h) (Or.inr ⟨by kernel_rfl, rfl⟩) ?_
        refine wpAny_take (i := 7) (v := undef) rfl (by kernel_rfl) (by kernel_rfl) (by kernel_rfl) (fun _ _ _ h => h) (Or.inr ⟨by kernel_rfl, rfl⟩) ?_
        refine wpAny_take (i := 8) (v := undef) rfl (by kernel_rfl) (by kernel_rfl) (by kernel_rfl) (fun _ _ _ h => h) (Or.inr ⟨by kernel_rfl, rfl⟩) ?_
        refine wpAny_take (i := 9) (v := undef) rfl (by kernel_rfl) (by kernel_rfl) (by kernel_rfl) (fun _ _ _ h => h) (Or.inr ⟨by kernel_rfl, rfl⟩) ?_
        refine wpAny_take (i := 10) (v := undef) rfl (by kernel_rfl) (by kernel_rfl) (by kernel_rfl) (fun _ _ _ h => h) (Or.inr ⟨by kernel_rfl, rfl⟩) ?_
        refine wpAny_take (i := 11) (v := undef) rfl (by kernel_rfl) (by kernel_rfl) (by kernel_rfl) (fun _ _ _ h => h) (Or.inr ⟨by kernel_rfl, rfl⟩) ?_
        refine wpAny_take (i := 12) (v := undef) rfl (by kernel_rfl) (by kernel_rfl) (by kernel_rfl) (fun _ _ _ h => h) (Or.inr ⟨by kernel_rfl, rfl⟩) ?_
        refine wpAny_take (i := 13) (v := undef) rfl (by kernel_rfl) (by kernel_rfl) (by kernel_rfl) (fun _ _ _ h => h) (Or.inr ⟨by kernel_rfl, rfl⟩) ?_
        refine wpAny_take (i := 14) (v := undef) rfl (by kernel_rfl) (by kernel_rfl) (by kernel_rfl) (fun _ _ _ h => h) (Or.inr ⟨by kernel_rfl, rfl⟩) ?_
        refine wpAny_take (i := 15) (v := undef) rfl (by kernel_rfl) (by kernel_rfl) (by kernel_rfl) (fun _ _ _ h => h) (Or.inr ⟨by kernel_rfl, rfl⟩) ?_
        refine wpAny_take (i := 16) (v := undef) rfl (by kernel_rfl) (by kernel_rfl) (by kernel_rfl) (fun _ _ _ h => h) (Or.inr ⟨by kernel_rfl, rfl⟩) ?_
        refine wpAny_take (i := 17) (v := undef) rfl (by kernel_rfl) (by kernel_rfl) (by kernel_rfl) (fun _ _ _ h => h) (Or.inr ⟨by kernel_rfl, rfl⟩) ?_
        refine wpAny_take (i := 18) (v := ?va17) rfl (by kernel_rfl) (by kernel_rfl) (by kernel_rfl) (fun _ _ _ h => h) (Or.inl ⟨by kernel_rfl, ?ha17⟩) ?ra17
        case ha17 => (intro w; go_simp; first | done | (with_reducible rfl))
        refine wpAny_done (by kernel_rfl) ?_ _
        try go_simp
        go_wp2
        go_ret
        exact ⟨ret_int (Hr6.out).symm, hBn.out⟩
      | true =>
        by_cases k0 : k = 0
        · subst k0
          have HG1 := Lib.hid (HG.out.succ (fun f' hf' => by rw [hf] at hf'; injection hf' with e; subst e; exact ⟨of_decide_eq_true Hb.out, fun p h0 => absurd h0 (by omega)⟩))
          simp only [Nat.zero_mul, Nat.add_zero] at q0 q1 q2
          clear hi hf
          go_wp2
          refine wp_region_any (by kernel_rfl) ?_
          obtain ⟨X9, hX⟩ : ∃ X, (wr.alloc (.cells (fcells f.name f.data f.syn) 107)).drew = X := ⟨_, rfl⟩
          change wpAny _ _ _ _ _ _ _ ((wr.alloc (.cells (fcells f.name f.data f.syn) 107)).drew)
          rw [hX]
          obtain ⟨z0, z1, z2⟩ := HX.out
          have HBX := Lib.hid (show Dk X9 w.heap.size 24 (.slice (some ⟨g, off, none⟩) n cap) down fuse fault by rw [← hX]; exact HB.out)
          have yD := HBX.out.facts.1.1
          have hBX : Below w.heap.size w X9 := by rw [← hX]; exact (Hbel.out.alloc Hbel.out.size (.cells (fcells f.name f.data f.syn) 107)).drew
          have HBl := Lib.hid hBX
          replace z0 : X9.cell? ⟨wr.heap.size, 0, none⟩ = some (.string f.name) := by rw [← hX]; exact z0
          replace z1 : X9.cell? ⟨wr.heap.size, 1, none⟩ = some (.string f.data) := by rw [← hX]; exact z1
          replace z2 : X9.cell? ⟨wr.heap.size, 2, none⟩ = some (.int .i64 f.syn) := by rw [← hX]; exact z2
          clear hX hBX q0 q1 q2 d0 d1 d2 d3
          refine wpAny_ready (rs := [0]) (by kernel_rfl) (by simp) ?_
          refine AllReady.cons rfl (fun K hK => ?_) AllReady.nil
          go_simp
          refine hK _ _ ?_
          clear hK K
          refine wpAny_ready (rs := [1]) (by kernel_rfl) (by simp) ?_
          refine AllReady.cons rfl (fun K hK => ?_) AllReady.nil
          go_simp
          go_at_call 63
          refine (HF2.out _).mono ?_
          rintro e w8 ⟨rfl, hb8⟩
          have hDn := Lib.hid (HBX.out.keep hb8 HBX.out.lt)
          have hBn := Lib.hid (HBl.out.trans (hb8.mono HBl.out.size))
          clear hb8 z0 z1 z2 yD
          refine hK _ _ ?_
          clear hK K
          refine wpAny_take (i := 2) (v := ?vb1) rfl (by kernel_rfl) (by kernel_rfl) (by kernel_rfl) (fun _ _ _ h => h) (Or.inl ⟨by kernel_rfl, ?hb1⟩) ?rb1
          case hb1 => (intro w; go_simp; first | done | (with_reducible rfl))
          refine wpAny_take (i := 3) (v := ?vb2) rfl (by kernel_rfl) (by kernel_rfl) (by kernel_rfl) (fun _ _ _ h => h) (Or.inl ⟨by kernel_rfl, ?hb2⟩) ?rb2
          case hb2 => (intro w; go_simp; first | done | (with_reducible rfl))
          refine wpAny_take (i := 4) (v := ?vb3) rfl (by kernel_rfl) (by kernel_rfl) (by kernel_rfl) (fun _ _ _ h => h) (Or.inl ⟨by kernel_rfl, ?hb3⟩) ?rb3
          case hb3 => (intro w; go_simp; first | done | (with_reducible rfl))
          refine wpAny_take (i := 5) (v := ?vb4) rfl (by kernel_rfl) (by kernel_rfl) (by kernel_rfl) (fun _ _ _ h => h) (Or.inl ⟨by kernel_rfl, ?hb4⟩) ?rb4
          case hb4 => (intro w; go_simp; first | done | (with_reducible rfl))
          refine wpAny_take (i := 6) (v := ?vb5) rfl (by kernel_rfl) (by kernel_rfl) (by kernel_rfl) (fun _ _ _ h => h) (Or.inl ⟨by kernel_rfl, ?hb5⟩) ?rb5
          case hb5 => (intro w; go_simp; first | done | (with_reducible rfl))
          refine wpAny_take (i := 7) (v := undef) rfl (by kernel_rfl) (by kernel_rfl) (by kernel_rfl) (fun _ _ _ h => h) (Or.inr ⟨by kernel_rfl, rfl⟩) ?_
          refine wpAny_take (i := 8) (v := undef) rfl (by kernel_rfl) (by kernel_rfl) (by kernel_rfl) (fun _ _ _ h => h) (Or.inr ⟨by kernel_rfl, rfl⟩) ?_
          refine wpAny_take (i := 9) (v := undef) rfl (by kernel_rfl) (by kernel_rfl) (by kernel_rfl) (fun _ _ _ h => h) (Or.inr ⟨by kernel_rfl, rfl⟩) ?_
          refine wpAny_take (i := 10) (v := undef) rfl (by kernel_rfl) (by kernel_rfl) (by kernel_rfl) (fun _ _ _ h => h) (Or.inr ⟨by kernel_rfl, rfl⟩) ?_
          refine wpAny_take (i := 11) (v := undef) rfl (by kernel_rfl) (by kernel_rfl) (by kernel_rfl) (fun _ _ _ h => h) (Or.inr ⟨by kernel_rfl, rfl⟩) ?_
          refine wpAny_take (i := 12) (v := undef) rfl (by kernel_rfl) (by kernel_rfl) (by kernel_rfl) (fun _ _ _ h => h) (Or.inr ⟨by kernel_rfl, rfl⟩) ?_
          refine wpAny_take (i := 13) (v := undef) rfl (by kernel_rfl) (by kernel_rfl) (by kernel_rfl) (fun _ _ _ h => h) (Or.inr ⟨by kernel_rfl, rfl⟩) ?_
          refine wpAny_take (i := 14) (v := undef) rfl (by kernel_rfl) (by kernel_rfl) (by kernel_rfl) (fun _ _ _ h => h) (Or.inr ⟨by kernel_rfl, rfl⟩) ?_
          refine wpAny_take (i := 15) (v := undef) rfl (by kernel_rfl) (by kernel_rfl) (by kernel_rfl) (fun _ _ _ h => h) (Or.inr ⟨by kernel_rfl, rfl⟩) ?_
          refine wpAny_take (i := 16) (v := undef) rfl (by kernel_rfl) (by kernel_rfl) (by kernel_rfl) (fun _ _ _ h => h) (Or.inr ⟨by kernel_rfl, rfl⟩) ?_
          refine wpAny_take (i := 17) (v := ?vb16) rfl (by kernel_rfl) (by kernel_rfl) (by kernel_rfl) (fun _ _ _ h => h) (Or.inl ⟨by kernel_rfl, ?hb16⟩) ?rb16
          case hb16 => (intro w; go_simp; first | done | (with_reducible rfl))
          refine wpAny_take (i := 18) (v := ?vb17) rfl (by kernel_rfl) (by kernel_rfl) (by kernel_rfl) (fun _ _ _ h => h) (Or.inl ⟨by kernel_rfl, ?hb17⟩) ?rb17
          case hb17 => (intro w; go_simp; first | done | (with_reducible rfl))
          refine wpAny_done (by kernel_rfl) ?_ _
          try go_simp
          go_wp2
          go_roundw
          case rel => exact ⟨0 + 1, by go_num, by omega, hBn.out, hDn.out, HG1.out⟩
          case measure => simp [intOf]; omega
        · obtain ⟨p, hp⟩ : ∃ p, fs[k - 1]? = some p := ⟨fs[k - 1]'(by have := Hn.out; omega), by simp⟩
          have hq := (hi (k - 1) p hp).q0
          have HQ := Lib.hid (show (wr.alloc (.cells (fcells f.name f.data f.syn) 107)).cell? ⟨g, off + (k - 1) * 3, none⟩ = some (.string p.name) from (Below.alloc (Below.refl _ wr) (Nat.le_refl _) _ |>.cell (p := ⟨g, off + (k - 1) * 3, none⟩) (World.block_lt_of_cell? wr _ hq)).trans hq)
          have hk1 : (0 : Int) < (k : Int) := by omega
          have hk6 : 0 < k := by omega
          have hk7 : (1 : Int) ≤ (k : Int) := by omega
          have hk2 : (0 : Int) ≤ (k : Int) - 1 := by omega
          have hk3 : (k : Int) - 1 < (n : Int) := by omega
          have hk4 : ((k : Int) - 1).toNat = k - 1 := by omega
          have hk5 : IntKind.i64.wrap ((k : Int) - 1) = (k : Int) - 1 := IntWalk.i64_in _ (by omega)
          cases hrise : Op.bytesLess p.name.toList f.name.toList with
          | true =>
            have HG1 := Lib.hid (HG.out.succ (fun f' hf' => by rw [hf] at hf'; injection hf' with e; subst e; exact ⟨of_decide_eq_true Hb.out, fun p' _ hp' => by rw [hp] at hp'; injection hp' with e; subst e; exact hrise⟩))
            clear hi hq hp hf
            go_wp2
            refine wp_region_any (by kernel_rfl) ?_
            obtain ⟨X9, hX⟩ : ∃ X, (wr.alloc (.cells (fcells f.name f.data f.syn) 107)).drew = X := ⟨_, rfl⟩
            change wpAny _ _ _ _ _ _ _ ((wr.alloc (.cells (fcells f.name f.data f.syn) 107)).drew)
            rw [hX]
            obtain ⟨z0, z1, z2⟩ := HX.out
            have HBX := Lib.hid (show Dk X9 w.heap.size 24 (.slice (some ⟨g, off, none⟩) n cap) down fuse fault by rw [← hX]; exact HB.out)
            have yD := HBX.out.facts.1.1
            have hBX : Below w.heap.size w X9 := by rw [← hX]; exact (Hbel.out.alloc Hbel.out.size (.cells (fcells f.name f.data f.syn) 107)).drew
            have HBl := Lib.hid hBX
            replace z0 : X9.cell? ⟨wr.heap.size, 0, none⟩ = some (.string f.name) := by rw [← hX]; exact z0
            replace z1 : X9.cell? ⟨wr.heap.size, 1, none⟩ = some (.string f.data) := by rw [← hX]; exact z1
            replace z2 : X9.cell? ⟨wr.heap.size, 2, none⟩ = some (.int .i64 f.syn) := by rw [← hX]; exact z2
            have zQ : X9.cell? ⟨g, off + (k - 1) * 3, none⟩ = some (.string p.name) := by rw [← hX]; exact HQ.out
            clear hX hBX q0 q1 q2 d0 d1 d2 d3
            refine wpAny_ready (rs := [0]) (by kernel_rfl) (by simp) ?_
            refine AllReady.cons rfl (fun K hK => ?_) AllReady.nil
            go_simp
            refine hK _ _ ?_
            clear hK K
            refine wpAny_ready (rs := [1]) (by kernel_rfl) (by simp) ?_
            refine AllReady.cons rfl (fun K hK => ?_) AllReady.nil
            go_simp
            go_at_call 63
            refine (HF2.out _).mono ?_
            rintro e w8 ⟨rfl, hb8⟩
            have hDn := Lib.hid (HBX.out.keep hb8 HBX.out.lt)
            have hBn := Lib.hid (HBl.out.trans (hb8.mono HBl.out.size))
            have y0 := cell_step hb8 z0
            have yQ := cell_step hb8 zQ
            have yD := hDn.out.facts.1.1
            clear hb8 z0 z1 z2 zQ
            refine hK _ _ ?_
            clear hK K
            refine wpAny_take (i := 2) (v := ?vc1) rfl (by kernel_rfl) (by kernel_rfl) (by kernel_rfl) (fun _ _ _ h => h) (Or.inl ⟨by kernel_rfl, ?hc1⟩) ?rc1
            case hc1 => (intro w; go_simp; first | done | (with_reducible rfl))
            refine wpAny_take (i := 3) (v := ?vc2) rfl (by kernel_rfl) (by kernel_rfl) (by kernel_rfl) (fun _ _ _ h => h) (Or.inl ⟨by kernel_rfl, ?hc2⟩) ?rc2
            case hc2 => (intro w; go_simp; first | done | (with_reducible rfl))
            refine wpAny_take (i := 4) (v := ?vc3) rfl (by kernel_rfl) (by kernel_rfl) (by kernel_rfl) (fun _ _ _ h => h) (Or.inl ⟨by kernel_rfl, ?hc3⟩) ?rc3
            case hc3 => (intro w; go_simp; first | done | (with_reducible rfl))
            refine wpAny_take (i := 5) (v := ?vc4) rfl (by kernel_rfl) (by kernel_rfl) (by kernel_rfl) (fun _ _ _ h => h) (Or.inl ⟨by kernel_rfl, ?hc4⟩) ?rc4
            case hc4 => (intro w; go_simp; first | done | (with_reducible rfl))
            refine wpAny_take (i := 6) (v := ?vc5) rfl (by kernel_rfl) (by kernel_rfl) (by kernel_rfl) (fun _ _ _ h => h) (Or.inl ⟨by kernel_rfl, ?hc5⟩) ?rc5
            case hc5 => (intro w; go_simp; first | done | (with_reducible rfl))
            refine wpAny_take (i := 7) (v := ?vc6) rfl (by kernel_rfl) (by kernel_rfl) (by kernel_rfl) (fun _ _ _ h => h) (Or.inl ⟨by kernel_rfl, ?hc6⟩) ?rc6
            case hc6 => (intro w; go_simp; first | done | (with_reducible rfl))
            refine wpAny_take (i := 9) (v := ?vc7) rfl (by kernel_rfl) (by kernel_rfl) (by kernel_rfl) (fun _ _ _ h => h) (Or.inl ⟨by kernel_rfl, ?hc7⟩) ?rc7
            case hc7 => (intro w; go_simp; first | done | (with_reducible rfl))
            refine wpAny_take (i := 10) (v := ?vc8) rfl (by kernel_rfl) (by kernel_rfl) (by kernel_rfl) (fun _ _ _ h => h) (Or.inl ⟨by kernel_rfl, ?hc8⟩) ?rc8
            case hc8 => (intro w; go_simp; first | done | (with_reducible rfl))
            refine wpAny_take (i := 14) (v := ?vc9) rfl (by kernel_rfl) (by kernel_rfl) (by kernel_rfl) (fun _ _ _ h => h) (Or.inl ⟨by kernel_rfl, ?hc9⟩) ?rc9
            case hc9 => (intro w; go_simp; first | done | (with_reducible rfl))
            refine wpAny_ready (rs := [8, 15]) (by kernel_rfl) (by simp) ?_
            refine AllReady.cons rfl (fun K hK => ?_) ?_
            · skip
              go_simp
              refine hK _ _ ?_
              clear hK K
              refine wpAny_ready (rs := [11, 15]) (by kernel_rfl) (by simp) ?_
              refine AllReady.cons rfl (fun K hK => ?_) ?_
              · skip
                go_simp
                refine hK _ _ ?_
                clear hK K
                refine wpAny_take (i := 12) (v := ?vc10) rfl (by kernel_rfl) (by kernel_rfl) (by kernel_rfl) (fun _ _ _ h => h) (Or.inl ⟨by kernel_rfl, ?hc10⟩) ?rc10
                case hc10 => (intro w; go_simp; first | done | (with_reducible rfl))
                refine wpAny_ready (rs := [13, 15]) (by kernel_rfl) (by simp) ?_
                refine AllReady.cons rfl (fun K hK => ?_) ?_
                · skip
                  go_simp
                  refine hK _ _ ?_
                  clear hK K
                  refine wpAny_ready (rs := [15]) (by kernel_rfl) (by simp) ?_
                  refine AllReady.cons rfl (fun K hK => ?_) AllReady.nil
                  go_simp
                  refine hK _ _ ?_
                  clear hK K
                  refine wpAny_take (i := 16) (v := ?vc11) rfl (by kernel_rfl) (by kernel_rfl) (by kernel_rfl) (fun _ _ _ h => h) (Or.inl ⟨by kernel_rfl, ?hc11⟩) ?rc11
                  case hc11 => (intro w; go_simp; first | done | (with_reducible rfl))
                  refine wpAny_take (i := 17) (v := ?vc12) rfl (by kernel_rfl) (by kernel_rfl) (by kernel_rfl) (fun _ _ _ h => h) (Or.inl ⟨by kernel_rfl, ?hc12⟩) ?rc12
                  case hc12 => (intro w; go_simp; first | done | (with_reducible rfl))
                  refine wpAny_take (i := 18) (v := ?vc13) rfl (by kernel_rfl) (by kernel_rfl) (by kernel_rfl) (fun _ _ _ h => h) (Or.inl ⟨by kernel_rfl, ?hc13⟩) ?rc13
                  case hc13 => (intro w; go_simp; first | done | (with_reducible rfl))
                  refine wpAny_done (by kernel_rfl) ?_ _
                  try go_simp
                  clear hk2 hk3 hk4 hk5 hk7
                  go_wp2
                  go_roundw
                  case rel => exact ⟨k + 1, by go_num, by omega, hBn.out, hDn.out, HG1.out⟩
                  case measure => simp [intOf]; omega
                refine AllReady.cons rfl (fun K hK => ?_) AllReady.nil
                go_simp
                refine hK _ _ ?_
                clear hK K
                refine wpAny_ready (rs := [13]) (by kernel_rfl) (by simp) ?_
                refine AllReady.cons rfl (fun K hK => ?_) AllReady.nil
                go_simp
                refine hK _ _ ?_
                clear hK K
                refine wpAny_take (i := 16) (v := ?vc14) rfl (by kernel_rfl) (by kernel_rfl) (by kernel_rfl) (fun _ _ _ h => h) (Or.inl ⟨by kernel_rfl, ?hc14⟩) ?rc14
                case hc14 => (intro w; go_simp; first | done | (with_reducible rfl))
                refine wpAny_take (i := 17) (v := ?vc15) rfl (by kernel_rfl) (by kernel_rfl) (by kernel_rfl) (fun _ _ _ h => h) (Or.inl ⟨by kernel_rfl, ?hc15⟩) ?rc15
                case hc15 => (intro w; go_simp; first | done | (with_reducible rfl))
                refine wpAny_take (i := 18) (v := ?vc16) rfl (by kernel_rfl) (by kernel_rfl) (by kernel_rfl) (fun _ _ _ h => h) (Or.inl ⟨by kernel_rfl, ?hc16⟩) ?rc16
                case hc16 => (intro w; go_simp; first | done | (with_reducible rfl))
                refine wpAny_done (by kernel_rfl) ?_ _
                try go_simp
                clear hk2 hk3 hk4 hk5 hk7
                go_wp2
                go_roundw
                case rel => exact ⟨k + 1, by go_num, by omega, hBn.out, hDn.out, HG1.out⟩
                case measure => simp [intOf]; omega
              refine AllReady.cons rfl (fun K hK => ?_) AllReady.nil
              go_simp
              refine hK _ _ ?_
              clear hK K
              refine wpAny_ready (rs := [11]) (by kernel_rfl) (by simp) ?_
              refine AllReady.cons rfl (fun K hK => ?_) AllReady.nil
              go_simp
              refine hK _ _ ?_
              clear hK K
              refine wpAny_take (i := 12) (v := ?vc17) rfl (by kernel_rfl) (by kernel_rfl) (by kernel_rfl) (fun _ _ _ h => h) (Or.inl ⟨by kernel_rfl, ?hc17⟩) ?rc17
              case hc17 => (intro w; go_simp; first | done | (with_reducible rfl))
              refine wpAny_ready (rs := [13]) (by kernel_rfl) (by simp) ?_
              refine AllReady.cons rfl (fun K hK => ?_) AllReady.nil
              go_simp
              refine hK _ _ ?_
              clear hK K
              refine wpAny_take (i := 16) (v := ?vc18) rfl (by kernel_rfl) (by kernel_rfl) (by kernel_rfl) (fun _ _ _ h => h) (Or.inl ⟨by kernel_rfl, ?hc18⟩) ?rc18
              case hc18 => (intro w; go_simp; first | done | (with_reducible rfl))
              refine wpAny_take (i := 17) (v := ?vc19) rfl (by kernel_rfl) (by kernel_rfl) (by kernel_rfl) (fun _ _ _ h => h) (Or.inl ⟨by kernel_rfl, ?hc19⟩) ?rc19
              case hc19 => (intro w; go_simp; first | done | (with_reducible rfl))
              refine wpAny_take (i := 18) (v := ?vc20) rfl (by kernel_rfl) (by kernel_rfl) (by kernel_rfl) (fun _ _ _ h => h) (Or.inl ⟨by kernel_rfl, ?hc20⟩) ?rc20
              case hc20 => (intro w; go_simp; first | done | (with_reducible rfl))
              refine wpAny_done (by kernel_rfl) ?_ _
              try go_simp
              clear hk2 hk3 hk4 hk5 hk7
              go_wp2
              go_roundw
              case rel => exact ⟨k + 1, by go_num, by omega, hBn.out, hDn.out, HG1.out⟩
              case measure => simp [intOf]; omega
            refine AllReady.cons rfl (fun K hK => ?_) AllReady.nil
            go_simp
            refine hK _ _ ?_
            clear hK K
            refine wpAny_ready (rs := [8]) (by kernel_rfl) (by simp) ?_
            refine AllReady.cons rfl (fun K hK => ?_) AllReady.nil
            go_simp
            refine hK _ _ ?_
            clear hK K
            refine wpAny_ready (rs := [11]) (by kernel_rfl) (by simp) ?_
            refine AllReady.cons rfl (fun K hK => ?_) AllReady.nil
            go_simp
            refine hK _ _ ?_
            clear hK K
            refine wpAny_take (i := 12) (v := ?vc21) rfl (by kernel_rfl) (by kernel_rfl) (by kernel_rfl) (fun _ _ _ h => h) (Or.inl ⟨by kernel_rfl, ?hc21⟩) ?rc21
            case hc21 => (intro w; go_simp; first | done | (with_reducible rfl))
            refine wpAny_ready (rs := [13]) (by kernel_rfl) (by simp) ?_
            refine AllReady.cons rfl (fun K hK => ?_) AllReady.nil
            go_simp
            refine hK _ _ ?_
            clear hK K
            refine wpAny_take (i := 16) (v := ?vc22) rfl (by kernel_rfl) (by kernel_rfl) (by kernel_rfl) (fun _ _ _ h => h) (Or.inl ⟨by kernel_rfl, ?hc22⟩) ?rc22
            case hc22 => (intro w; go_simp; first | done | (with_reducible rfl))
            refine wpAny_take (i := 17) (v := ?vc23) rfl (by kernel_rfl) (by kernel_rfl) (by kernel_rfl) (fun _ _ _ h => h) (Or.inl ⟨by kernel_rfl, ?hc23⟩) ?rc23
            case hc23 => (intro w; go_simp; first | done | (with_reducible rfl))
            refine wpAny_take (i := 18) (v := ?vc24) rfl (by kernel_rfl) (by kernel_rfl) (by kernel_rfl) (fun _ _ _ h => h) (Or.inl ⟨by kernel_rfl, ?hc24⟩) ?rc24
            case hc24 => (intro w; go_simp; first | done | (with_reducible rfl))
            refine wpAny_done (by kernel_rfl) ?_ _
            try go_simp
            clear hk2 hk3 hk4 hk5 hk7
            go_wp2
            go_roundw
            case rel => exact ⟨k + 1, by go_num, by omega, hBn.out, hDn.out, HG1.out⟩
            case measure => simp [intOf]; omega
          | false =>
            have Hr6 := Lib.hid (Hr6'.out (fun hR => by have := (hR.2 k (by have := Hn.out; omega) f hf).2 p (by omega) hp; unfold lt at this; rw [hrise] at this; cases this))
            clear hi hq hp hf
            go_wp2
            refine wp_region_any (by kernel_rfl) ?_
            obtain ⟨X9, hX⟩ : ∃ X, (wr.alloc (.cells (fcells f.name f.data f.syn) 107)).drew = X := ⟨_, rfl⟩
            change wpAny _ _ _ _ _ _ _ ((wr.alloc (.cells (fcells f.name f.data f.syn) 107)).drew)
            rw [hX]
            obtain ⟨z0, z1, z2⟩ := HX.out
            have HBX := Lib.hid (show Dk X9 w.heap.size 24 (.slice (some ⟨g, off, none⟩) n cap) down fuse fault by rw [← hX]; exact HB.out)
            have yD := HBX.out.facts.1.1
            have hBX : Below w.heap.size w X9 := by rw [← hX]; exact (Hbel.out.alloc Hbel.out.size (.cells (fcells f.name f.data f.syn) 107)).drew
            have HBl := Lib.hid hBX
            replace z0 : X9.cell? ⟨wr.heap.size, 0, none⟩ = some (.string f.name) := by rw [← hX]; exact z0
            replace z1 : X9.cell? ⟨wr.heap.size, 1, none⟩ = some (.string f.data) := by rw [← hX]; exact z1
            replace z2 : X9.cell? ⟨wr.heap.size, 2, none⟩ = some (.int .i64 f.syn) := by rw [← hX]; exact z2
            have zQ : X9.cell? ⟨g, off + (k - 1) * 3, none⟩ = some (.string p.name) := by rw [← hX]; exact HQ.out
            clear hX hBX q0 q1 q2 d0 d1 d2 d3
            refine wpAny_ready (rs := [0]) (by kernel_rfl) (by simp) ?_
            refine AllReady.cons rfl (fun K hK => ?_) AllReady.nil
            go_simp
            refine hK _ _ ?_
            clear hK K
            refine wpAny_ready (rs := [1]) (by kernel_rfl) (by simp) ?_
            refine AllReady.cons rfl (fun K hK => ?_) AllReady.nil
            go_simp
            go_at_call 63
            refine (HF2.out _).mono ?_
            rintro e w8 ⟨rfl, hb8⟩
            have hDn := Lib.hid (HBX.out.keep hb8 HBX.out.lt)
            have hBn := Lib.hid (HBl.out.trans (hb8.mono HBl.out.size))
            have y0 := cell_step hb8 z0
            have yQ := cell_step hb8 zQ
            have yD := hDn.out.facts.1.1
            clear hb8 z0 z1 z2 zQ
            refine hK _ _ ?_
            clear hK K
            refine wpAny_take (i := 2) (v := ?vd1) rfl (by kernel_rfl) (by kernel_rfl) (by kernel_rfl) (fun _ _ _ h => h) (Or.inl ⟨by kernel_rfl, ?hd1⟩) ?rd1
            case hd1 => (intro w; go_simp; first | done | (with_reducible rfl))
            refine wpAny_take (i := 3) (v := ?vd2) rfl (by kernel_rfl) (by kernel_rfl) (by kernel_rfl) (fun _ _ _ h => h) (Or.inl ⟨by kernel_rfl, ?hd2⟩) ?rd2
            case hd2 => (intro w; go_simp; first | done | (with_reducible rfl))
            refine wpAny_take (i := 4) (v := ?vd3) rfl (by kernel_rfl) (by kernel_rfl) (by kernel_rfl) (fun _ _ _ h => h) (Or.inl ⟨by kernel_rfl, ?hd3⟩) ?rd3
            case hd3 => (intro w; go_simp; first | done | (with_reducible rfl))
            refine wpAny_take (i := 5) (v := ?vd4) rfl (by kernel_rfl) (by kernel_rfl) (by kernel_rfl) (fun _ _ _ h => h) (Or.inl ⟨by kernel_rfl, ?hd4⟩) ?rd4
            case hd4 => (intro w; go_simp; first | done | (with_reducible rfl))
            refine wpAny_take (i := 6) (v := ?vd5) rfl (by kernel_rfl) (by kernel_rfl) (by kernel_rfl) (fun _ _ _ h => h) (Or.inl ⟨by kernel_rfl, ?hd5⟩) ?rd5
            case hd5 => (intro w; go_simp; first | done | (with_reducible rfl))
            refine wpAny_take (i := 7) (v := ?vd6) rfl (by kernel_rfl) (by kernel_rfl) (by kernel_rfl) (fun _ _ _ h => h) (Or.inl ⟨by kernel_rfl, ?hd6⟩) ?rd6
            case hd6 => (intro w; go_simp; first | done | (with_reducible rfl))
            refine wpAny_take (i := 9) (v := ?vd7) rfl (by kernel_rfl) (by kernel_rfl) (by kernel_rfl) (fun _ _ _ h => h) (Or.inl ⟨by kernel_rfl, ?hd7⟩) ?rd7
            case hd7 => (intro w; go_simp; first | done | (with_reducible rfl))
            refine wpAny_take (i := 10) (v := ?vd8) rfl (by kernel_rfl) (by kernel_rfl) (by kernel_rfl) (fun _ _ _ h => h) (Or.inl ⟨by kernel_rfl, ?hd8⟩) ?rd8
            case hd8 => (intro w; go_simp; first | done | (with_reducible rfl))
            refine wpAny_take (i := 14) (v := ?vd9) rfl (by kernel_rfl) (by kernel_rfl) (by kernel_rfl) (fun _ _ _ h => h) (Or.inl ⟨by kernel_rfl, ?hd9⟩) ?rd9
            case hd9 => (intro w; go_simp; first | done | (with_reducible rfl))
            refine wpAny_ready (rs := [8, 15]) (by kernel_rfl) (by simp) ?_
            refine AllReady.cons rfl (fun K hK => ?_) ?_
            · skip
              go_simp
              refine hK _ _ ?_
              clear hK K
              refine wpAny_ready (rs := [11, 15]) (by kernel_rfl) (by simp) ?_
              refine AllReady.cons rfl (fun K hK => ?_) ?_
              · skip
                go_simp
                refine hK _ _ ?_
                clear hK K
                refine wpAny_take (i := 12) (v := ?vd10) rfl (by kernel_rfl) (by kernel_rfl) (by kernel_rfl) (fun _ _ _ h => h) (Or.inl ⟨by kernel_rfl, ?hd10⟩) ?rd10
                case hd10 => (intro w; go_simp; first | done | (with_reducible rfl))
                refine wpAny_ready (rs := [13, 15]) (by kernel_rfl) (by simp) ?_
                refine AllReady.cons rfl (fun K hK => ?_) ?_
                · skip
                  go_simp
                  refine hK _ _ ?_
                  clear hK K
                  refine wpAny_ready (rs := [15]) (by kernel_rfl) (by simp) ?_
                  refine AllReady.cons rfl (fun K hK => ?_) AllReady.nil
                  go_simp
                  refine hK _ _ ?_
                  clear hK K
                  refine wpAny_take (i := 16) (v := ?vd11) rfl (by kernel_rfl) (by kernel_rfl) (by kernel_rfl) (fun _ _ _ h => h) (Or.inl ⟨by kernel_rfl, ?hd11⟩) ?rd11
                  case hd11 => (intro w; go_simp; first | done | (with_reducible rfl))
                  refine wpAny_take (i := 17) (v := ?vd12) rfl (by kernel_rfl) (by kernel_rfl) (by kernel_rfl) (fun _ _ _ h => h) (Or.inl ⟨by kernel_rfl, ?hd12⟩) ?rd12
                  case hd12 => (intro w; go_simp; first | done | (with_reducible rfl))
                  refine wpAny_take (i := 18) (v := ?vd13) rfl (by kernel_rfl) (by kernel_rfl) (by kernel_rfl) (fun _ _ _ h => h) (Or.inl ⟨by kernel_rfl, ?hd13⟩) ?rd13
                  case hd13 => (intro w; go_simp; first | done | (with_reducible rfl))
                  refine wpAny_done (by kernel_rfl) ?_ _
                  try go_simp
                  clear hk2 hk3 hk4 hk5 hk7
                  go_wp2
                  go_ret
                  exact ⟨ret_int (Hr6.out).symm, hBn.out⟩
                refine AllReady.cons rfl (fun K hK => ?_) AllReady.nil
                go_simp
                refine hK _ _ ?_
                clear hK K
                refine wpAny_ready (rs := [13]) (by kernel_rfl) (by simp) ?_
                refine AllReady.cons rfl (fun K hK => ?_) AllReady.nil
                go_simp
                refine hK _ _ ?_
                clear hK K
                refine wpAny_take (i := 16) (v := ?vd14) rfl (by kernel_rfl) (by kernel_rfl) (by kernel_rfl) (fun _ _ _ h => h) (Or.inl ⟨by kernel_rfl, ?hd14⟩) ?rd14
                case hd14 => (intro w; go_simp; first | done | (with_reducible rfl))
                refine wpAny_take (i := 17) (v := ?vd15) rfl (by kernel_rfl) (by kernel_rfl) (by kernel_rfl) (fun _ _ _ h => h) (Or.inl ⟨by kernel_rfl, ?hd15⟩) ?rd15
                case hd15 => (intro w; go_simp; first | done | (with_reducible rfl))
                refine wpAny_take (i := 18) (v := ?vd16) rfl (by kernel_rfl) (by kernel_rfl) (by kernel_rfl) (fun _ _ _ h => h) (Or.inl ⟨by kernel_rfl, ?hd16⟩) ?rd16
                case hd16 => (intro w; go_simp; first | done | (with_reducible rfl))
                refine wpAny_done (by kernel_rfl) ?_ _
                try go_simp
                clear hk2 hk3 hk4 hk5 hk7
                go_wp2
                go_ret
                exact ⟨ret_int (Hr6.out).symm, hBn.out⟩
              refine AllReady.cons rfl (fun K hK => ?_) AllReady.nil
              go_simp
              refine hK _ _ ?_
              clear hK K
              refine wpAny_ready (rs := [11]) (by kernel_rfl) (by simp) ?_
              refine AllReady.cons rfl (fun K hK => ?_) AllReady.nil
              go_simp
              refine hK _ _ ?_
              clear hK K
              refine wpAny_take (i := 12) (v := ?vd17) rfl (by kernel_rfl) (by kernel_rfl) (by kernel_rfl) (fun _ _ _ h => h) (Or.inl ⟨by kernel_rfl, ?hd17⟩) ?rd17
              case hd17 => (intro w; go_simp; first | done | (with_reducible rfl))
              refine wpAny_ready (rs := [13]) (by kernel_rfl) (by simp) ?_
              refine AllReady.cons rfl (fun K hK => ?_) AllReady.nil
              go_simp
              refine hK _ _ ?_
              clear hK K
              refine wpAny_take (i := 16) (v := ?vd18) rfl (by kernel_rfl) (by kernel_rfl) (by kernel_rfl) (fun _ _ _ h => h) (Or.inl ⟨by kernel_rfl, ?hd18⟩) ?rd18
              case hd18 => (intro w; go_simp; first | done | (with_reducible rfl))
              refine wpAny_take (i := 17) (v := ?vd19) rfl (by kernel_rfl) (by kernel_rfl) (by kernel_rfl) (fun _ _ _ h => h) (Or.inl ⟨by kernel_rfl, ?hd19⟩) ?rd19
              case hd19 => (intro w; go_simp; first | done | (with_reducible rfl))
              refine wpAny_take (i := 18) (v := ?vd20) rfl (by kernel_rfl) (by kernel_rfl) (by kernel_rfl) (fun _ _ _ h => h) (Or.inl ⟨by kernel_rfl, ?hd20⟩) ?rd20
              case hd20 => (intro w; go_simp; first | done | (with_reducible rfl))
              refine wpAny_done (by kernel_rfl) ?_ _
              try go_simp
              clear hk2 hk3 hk4 hk5 hk7
              go_wp2
              go_ret
              exact ⟨ret_int (Hr6.out).symm, hBn.out⟩
            refine AllReady.cons rfl (fun K hK => ?_) AllReady.nil
            go_simp
            refine hK _ _ ?_
            clear hK K
            refine wpAny_ready (rs := [8]) (by kernel_rfl) (by simp) ?_
            refine AllReady.cons rfl (fun K hK => ?_) AllReady.nil
            go_simp
            refine hK _ _ ?_
            clear hK K
            refine wpAny_ready (rs := [11]) (by kernel_rfl) (by simp) ?_
            refine AllReady.cons rfl (fun K hK => ?_) AllReady.nil
            go_simp
            refine hK _ _ ?_
            clear hK K
            refine wpAny_take (i := 12) (v := ?vd21) rfl (by kernel_rfl) (by kernel_rfl) (by kernel_rfl) (fun _ _ _ h => h) (Or.inl ⟨by kernel_rfl, ?hd21⟩) ?rd21
            case hd21 => (intro w; go_simp; first | done | (with_reducible rfl))
            refine wpAny_ready (rs := [13]) (by kernel_rfl) (by simp) ?_
            refine AllReady.cons rfl (fun K hK => ?_) AllReady.nil
            go_simp
            refine hK _ _ ?_
            clear hK K
            refine wpAny_take (i := 16) (v := ?vd22) rfl (by kernel_rfl) (by kernel_rfl) (by kernel_rfl) (fun _ _ _ h => h) (Or.inl ⟨by kernel_rfl, ?hd22⟩) ?rd22
            case hd22 => (intro w; go_simp; first | done | (with_reducible rfl))
            refine wpAny_take (i := 17) (v := ?vd23) rfl (by kernel_rfl) (by kernel_rfl) (by kernel_rfl) (fun _ _ _ h => h) (Or.inl ⟨by kernel_rfl, ?hd23⟩) ?rd23
            case hd23 => (intro w; go_simp; first | done | (with_reducible rfl))
            refine wpAny_take (i := 18) (v := ?vd24) rfl (by kernel_rfl) (by kernel_rfl) (by kernel_rfl) (fun _ _ _ h => h) (Or.inl ⟨by kernel_rfl, ?hd24⟩) ?rd24
            case hd24 => (intro w; go_simp; first | done | (with_reducible rfl))
            refine wpAny_done (by kernel_rfl) ?_ _
            try go_simp
            clear hk2 hk3 hk4 hk5 hk7
            go_wp2
            go_ret
            exact ⟨ret_int (Hr6.out).symm, hBn.out⟩
    · have e : k = n := by omega
      have Hr := Lib.hid (Hr0.out ⟨by rw [← Hn.out]; exact h64, fun i hi => HG.out i (by rw [e, Hn.out]; exact hi)⟩)
      clear e
      go_wp2
      go_ret
      exact ⟨ret_int Hr.out.symm, Hbel.out⟩
theorem check_ok (w : World) (ad : Option Addr) (cap n : Nat) (down : Bool) (fuse fault : Int) (fs : List F) (hn : n = fs.length) (hf : Fls w w.heap.size ad fs) (hR : Right fs) :
    Calls Tryz.prog 23 #[.agg (dcells (.slice ad n cap) down fuse fault)] w fun e w' => e = .returned (.int .i64 0) ∧ Below w.heap.size w w' :=
  check_short w ad cap n down fuse fault fs 0 hn (by rw [hn]; exact hR.1) hf (fun f hm => okF_fit (hR.ok f hm)) (fun _ => rfl) (fun h => absurd hR h)
theorem check_no (w : World) (ad : Option Addr) (cap n : Nat) (down : Bool) (fuse fault : Int) (fs : List F) (hn : n = fs.length) (hf : Fls w w.heap.size ad fs) (hfit : ∀ f ∈ fs, Fit f) (hR : ¬ Right fs) :
    Calls Tryz.prog 23 #[.agg (dcells (.slice ad n cap) down fuse fault)] w fun e w' => e = .returned (.int .i64 6) ∧ Below w.heap.size w w' := by
  by_cases h : 64 < n
  · exact check_long w ad cap n down fuse fault h
  · exact check_short w ad cap n down fuse fault fs 6 hn (by omega) hf hfit (fun h => absurd h hR) (fun _ => rfl)
end Go.Proofs.YtkhmdofeonlnpaaGreatDoor
