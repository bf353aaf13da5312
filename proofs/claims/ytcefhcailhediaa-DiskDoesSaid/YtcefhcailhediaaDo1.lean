/- THE WALKS OVER add, sync, cut. -/
import Derived.Test.YtcefhcailhediaaRefz
namespace Go.Proofs.Ytcefhcailhediaa
open Go.RowKit
set_option linter.unusedVariables false
set_option linter.unusedSimpArgs false

theorem list_set_at {α : Type} : ∀ (l : List α) (i : Nat) (x : α), i < l.length → l.set i x = l.take i ++ x :: l.drop (i + 1)
  | [], _, _, h => by simp at h
  | a :: l, 0, x, _ => rfl
  | a :: l, i + 1, x, h => by simp only [List.set_cons_succ, List.take_succ_cons, List.drop_succ_cons, List.cons_append]; rw [list_set_at l i x (by simpa using h)]
theorem fc_set1 : ∀ (fs : List F) (i : Nat) (f : F) (x : ByteArray), fs[i]? = some f → (fs.flatMap fc).set (i * 3 + 1) (.string x) = (fs.set i ⟨f.name, x, f.syn⟩).flatMap fc
  | [], i, f, x, h => by simp at h
  | a :: fs, 0, f, x, h => by simp at h; subst h; simp [fc]
  | a :: fs, i + 1, f, x, h => by
    rw [List.set_cons_succ, List.flatMap_cons, List.flatMap_cons, ← fc_set1 fs i f x (by simpa using h), List.set_append]
    rw [if_neg (by simp [fc]; omega)]
    congr 2
    simp [fc]; omega
theorem fc_set2 : ∀ (fs : List F) (i : Nat) (f : F) (x : Int), fs[i]? = some f → (fs.flatMap fc).set (i * 3 + 2) (.int .i64 x) = (fs.set i ⟨f.name, f.data, x⟩).flatMap fc
  | [], i, f, x, h => by simp at h
  | a :: fs, 0, f, x, h => by simp at h; subst h; simp [fc]
  | a :: fs, i + 1, f, x, h => by
    rw [List.set_cons_succ, List.flatMap_cons, List.flatMap_cons, ← fc_set2 fs i f x (by simpa using h), List.set_append]
    rw [if_neg (by simp [fc]; omega)]
    congr 2
    simp [fc]; omega
section
variable {w w' : World} {base gb n cap : Nat} {fs : List F}
theorem FRow.fz (h : FRow w base (.slice (some ⟨gb, 0, none⟩) n cap) fs) (j : Nat) : w.frozen? ⟨gb, j, none⟩ = false := by
  obtain ⟨ad, cap', hv, _⟩ := h.fls
  simp only [Value.slice.injEq] at hv
  obtain ⟨_, rfl, _⟩ := hv
  exact World.ownsRow.frozenAt h j
theorem FRow.len {ad : Option Addr} (h : FRow w base (.slice ad n cap) fs) : n = fs.length := by
  obtain ⟨ad', cap', hv, _⟩ := h.fls
  simp only [Value.slice.injEq] at hv
  exact hv.2.1
theorem FRow.put1 (h : FRow w base (.slice (some ⟨gb, 0, none⟩) n cap) fs) {i : Nat} {f : F} (hf : fs[i]? = some f) (x : ByteArray) :
    FRow (w.setCell ⟨gb, i * 3 + 1, none⟩ (.string x)) base (.slice (some ⟨gb, 0, none⟩) n cap) (fs.set i ⟨f.name, x, f.syn⟩) ∧ w.grownBy (w.setCell ⟨gb, i * 3 + 1, none⟩ (.string x)) (some gb) := by
  have hn := h.len
  subst hn
  have := World.ownsRow.stored h (i * 3 + 1) (.string x)
  rw [fc_set1 fs i f x hf] at this
  refine ⟨?_, this.2⟩
  unfold FRow
  rw [List.length_set]
  exact this.1
theorem FRow.put2 (h : FRow w base (.slice (some ⟨gb, 0, none⟩) n cap) fs) {i : Nat} {f : F} (hf : fs[i]? = some f) (x : Int) :
    FRow (w.setCell ⟨gb, i * 3 + 2, none⟩ (.int .i64 x)) base (.slice (some ⟨gb, 0, none⟩) n cap) (fs.set i ⟨f.name, f.data, x⟩) ∧ w.grownBy (w.setCell ⟨gb, i * 3 + 2, none⟩ (.int .i64 x)) (some gb) := by
  have hn := h.len
  subst hn
  have := World.ownsRow.stored h (i * 3 + 2) (.int .i64 x)
  rw [fc_set2 fs i f x hf] at this
  refine ⟨?_, this.2⟩
  unfold FRow
  rw [List.length_set]
  exact this.1
theorem FRow.below {v : Value} (h : FRow w base v fs) (hb : Below w.heap.size w w') : FRow w' base v fs :=
  h.kept (row := none) ⟨hb.os, hb.tape, hb.output, hb.size, fun k hk _ => hb.block k hk⟩ (by cases e : v.ownBlock <;> simp)
theorem Dk.far {g T : Nat} {v : Value} {down : Bool} {fuse fault : Int} (h : Dk w g T v down fuse fault) {gb o : Nat} {u : Value} (hne : g ≠ gb) : Dk (w.setCell ⟨gb, o, none⟩ u) g T v down fuse fault :=
  (Below.heap_setCell w ⟨gb, o, none⟩ u g hne).trans h
end

section
variable (w : World) (g base gb n cap : Nat) (down : Bool) (fuse fault : Int) (fs : List F) (nm dt : ByteArray) (z : Int) (f : F)
set_option maxHeartbeats 4000000 in
theorem add_any (k : Int) (h : On w g (some ⟨gb, 0, none⟩) n cap down fuse fault fs) (hw : FRow w base (.slice (some ⟨gb, 0, none⟩) n cap) fs) (hne : g ≠ gb) (hf : found fs nm = some f) (hs : dt.size ≤ 262144) :
    Calls Try.prog 45 #[.pointer (some ⟨g, 0, none⟩), .agg (scells k nm dt z)] w fun e w' => e = .returned (.tuple #[]) ∧ Dk w' g 64 (.slice (some ⟨gb, 0, none⟩) n cap) down fuse fault ∧
      FRow w' base (.slice (some ⟨gb, 0, none⟩) n cap) (fs.set (pos fs nm) ⟨f.name, f.data ++ dt, f.syn⟩) ∧ Below base w w' := by
  have hz := okF_size (h.r.ok f (found_mem hf))
  obtain ⟨gb', off', e, hgb, hat⟩ := h.isat hf
  injection e with e
  injection e with e1 e2
  subst e1 e2
  have Hbase := Lib.hid (show base ≤ w.heap.size by have := hw.lt gb rfl; omega)
  have Hgb2 := Lib.hid (show base ≤ gb from (hw.lt gb rfl).1)
  have HfP := Lib.hid (found_some hf).1
  obtain ⟨P, hP⟩ : ∃ P, pos fs nm = P := ⟨_, rfl⟩
  rw [hP] at hat HfP ⊢
  have HA := Lib.hid hat
  have Hgb := Lib.hid hgb
  have H := Lib.hid h
  have HW := Lib.hid hw
  have hcat : ¬ 9223372036854775807 < f.data.size + dt.size := by omega
  have Hf := Lib.hid hf
  have HP := Lib.hid hP
  clear h hw hat hgb hf hP
  go_enter Try.func45, Try.ntmps45
  go_wp2
  refine wp_region_any (by kernel_rfl) ?_
  obtain ⟨X9, hX⟩ : ∃ X, (w.alloc (.cells (scells k nm dt z) 27)).drew = X := ⟨_, rfl⟩
  change wpAny _ _ _ _ _ _ _ ((w.alloc (.cells (scells k nm dt z) 27)).drew)
  rw [hX]
  have hBX : Below w.heap.size w X9 := by rw [← hX]; exact ((Below.refl _ w).alloc (Nat.le_refl _) _).drew
  have hxx : X9.heap[w.heap.size]? = some (.cells (scells k nm dt z) 27) := by rw [← hX]; exact blk_new w _
  have HF := Lib.hid ((H.out.keep hBX).file_yes Hf.out)
  rw [HP.out] at HF
  obtain ⟨x0, x1, x2, x3⟩ := box4 hxx
  have HXX := Lib.hid hxx
  have HBX := Lib.hid hBX
  clear hX hBX hxx x0 x3
  refine wpAny_take (i := 0) (v := ?va1) rfl (by kernel_rfl) (by kernel_rfl) (by kernel_rfl) (fun _ _ _ h => h) (Or.inl ⟨by kernel_rfl, ?ha1⟩) ?ra1
  case ha1 => (intro w; go_simp; first | done | (with_reducible rfl))
  refine wpAny_take (i := 1) (v := ?va2) rfl (by kernel_rfl) (by kernel_rfl) (by kernel_rfl) (fun _ _ _ h => h) (Or.inl ⟨by kernel_rfl, ?ha2⟩) ?ra2
  case ha2 => (intro w; go_simp; first | done | (with_reducible rfl))
  refine wpAny_take (i := 7) (v := ?va3) rfl (by kernel_rfl) (by kernel_rfl) (by kernel_rfl) (fun _ _ _ h => h) (Or.inl ⟨by kernel_rfl, ?ha3⟩) ?ra3
  case ha3 => (intro w; go_simp; first | done | (with_reducible rfl))
  refine wpAny_ready (rs := [2, 8]) (by kernel_rfl) (by simp) ?_
  refine AllReady.cons rfl (fun K hK => ?_) ?_
  · skip
    go_simp
    refine hK _ _ ?_
    clear hK K
    refine wpAny_ready (rs := [3, 8]) (by kernel_rfl) (by simp) ?_
    refine AllReady.cons rfl (fun K hK => ?_) ?_
    · skip
      go_simp
      go_at_call 35
      refine (HF.out).mono ?_
      rintro e w1 ⟨rfl, hb⟩
      obtain ⟨y0, y1, y2, y3⟩ := box4 ((hb.block w.heap.size (World.block_lt_of_cell? X9 _ x1)).trans HXX.out)
      have Hb := Lib.hid (HBX.out.trans (hb.mono HBX.out.size))
      have HR := Lib.hid (HW.out.below Hb.out)
      obtain ⟨q0, q1, q2⟩ := (HA.out.keep Hgb.out Hb.out)
      have fz := HR.out.fz (P * 3 + 1)
      rw [Nat.zero_add] at q0 q1 q2
      clear hb y0 y3 x1
      refine hK _ _ ?_
      clear hK K
      refine wpAny_take (i := 4) (v := ?va4) rfl (by kernel_rfl) (by kernel_rfl) (by kernel_rfl) (fun _ _ _ h => h) (Or.inl ⟨by kernel_rfl, ?ha4⟩) ?ra4
      case ha4 => (intro w; go_simp; first | done | (with_reducible rfl))
      refine wpAny_take (i := 5) (v := ?va5) rfl (by kernel_rfl) (by kernel_rfl) (by kernel_rfl) (fun _ _ _ h => h) (Or.inl ⟨by kernel_rfl, ?ha5⟩) ?ra5
      case ha5 => (intro w; go_simp; first | done | (with_reducible rfl))
      refine wpAny_ready (rs := [6, 8]) (by kernel_rfl) (by simp) ?_
      refine AllReady.cons rfl (fun K hK => ?_) ?_
      · skip
        go_simp
        refine hK _ _ ?_
        clear hK K
        refine wpAny_ready (rs := [8]) (by kernel_rfl) (by simp) ?_
        refine AllReady.cons rfl (fun K hK => ?_) AllReady.nil
        go_simp
        refine hK _ _ ?_
        clear hK K
        refine wpAny_take (i := 9) (v := ?va6) rfl (by kernel_rfl) (by kernel_rfl) (by kernel_rfl) (fun _ _ _ h => h) (Or.inl ⟨by kernel_rfl, ?ha6⟩) ?ra6
        case ha6 => (intro w; go_simp; first | done | (with_reducible rfl))
        refine wpAny_take (i := 10) (v := ?va7) rfl (by kernel_rfl) (by kernel_rfl) (by kernel_rfl) (fun _ _ _ h => h) (Or.inl ⟨by kernel_rfl, ?ha7⟩) ?ra7
        case ha7 => (intro w; go_simp; first | done | (with_reducible rfl))
        refine wpAny_take (i := 11) (v := ?va8) rfl (by kernel_rfl) (by kernel_rfl) (by kernel_rfl) (fun _ _ _ h => h) (Or.inl ⟨by kernel_rfl, ?ha8⟩) ?ra8
        case ha8 => (intro w; go_simp; first | done | (with_reducible rfl))
        refine wpAny_ready (rs := [12]) (by kernel_rfl) (by simp) ?_
        refine AllReady.cons rfl (fun K hK => ?_) AllReady.nil
        go_simp
        refine hK _ _ ?_
        clear hK K
        refine wpAny_done (by kernel_rfl) ?_ _
        try go_simp
        go_end0
        refine ⟨rfl, ?_, ?_, ?_⟩
        · exact (H.out.d.keep Hb.out H.out.d.lt).far (by omega)
        · exact (HR.out.put1 HfP.out _).1
        · exact (Hb.out.mono Hbase.out).setCell (by exact Hgb2.out) _
      refine AllReady.cons rfl (fun K hK => ?_) AllReady.nil
      go_simp
      refine hK _ _ ?_
      clear hK K
      refine wpAny_ready (rs := [6]) (by kernel_rfl) (by simp) ?_
      refine AllReady.cons rfl (fun K hK => ?_) AllReady.nil
      go_simp
      refine hK _ _ ?_
      clear hK K
      refine wpAny_take (i := 9) (v := ?va9) rfl (by kernel_rfl) (by kernel_rfl) (by kernel_rfl) (fun _ _ _ h => h) (Or.inl ⟨by kernel_rfl, ?ha9⟩) ?ra9
      case ha9 => (intro w; go_simp; first | done | (with_reducible rfl))
      refine wpAny_take (i := 10) (v := ?va10) rfl (by kernel_rfl) (by kernel_rfl) (by kernel_rfl) (fun _ _ _ h => h) (Or.inl ⟨by kernel_rfl, ?ha10⟩) ?ra10
      case ha10 => (intro w; go_simp; first | done | (with_reducible rfl))
      refine wpAny_take (i := 11) (v := ?va11) rfl (by kernel_rfl) (by kernel_rfl) (by kernel_rfl) (fun _ _ _ h => h) (Or.inl ⟨by kernel_rfl, ?ha11⟩) ?ra11
      case ha11 => (intro w; go_simp; first | done | (with_reducible rfl))
      refine wpAny_ready (rs := [12]) (by kernel_rfl) (by simp) ?_
      refine AllReady.cons rfl (fun K hK => ?_) AllReady.nil
      go_simp
      refine hK _ _ ?_
      clear hK K
      refine wpAny_done (by kernel_rfl) ?_ _
      try go_simp
      go_end0
      refine ⟨rfl, ?_, ?_, ?_⟩
      · exact (H.out.d.keep Hb.out H.out.d.lt).far (by omega)
      · exact (HR.out.put1 HfP.out _).1
      · exact (Hb.out.mono Hbase.out).setCell (by exact Hgb2.out) _
    refine AllReady.cons rfl (fun K hK => ?_) AllReady.nil
    go_simp
    refine hK _ _ ?_
    clear hK K
    refine wpAny_ready (rs := [3]) (by kernel_rfl) (by simp) ?_
    refine AllReady.cons rfl (fun K hK => ?_) AllReady.nil
    go_simp
    go_at_call 35
    refine (HF.out).mono ?_
    rintro e w1 ⟨rfl, hb⟩
    obtain ⟨y0, y1, y2, y3⟩ := box4 ((hb.block w.heap.size (World.block_lt_of_cell? X9 _ x1)).trans HXX.out)
    have Hb := Lib.hid (HBX.out.trans (hb.mono HBX.out.size))
    have HR := Lib.hid (HW.out.below Hb.out)
    obtain ⟨q0, q1, q2⟩ := (HA.out.keep Hgb.out Hb.out)
    have fz := HR.out.fz (P * 3 + 1)
    rw [Nat.zero_add] at q0 q1 q2
    clear hb y0 y3 x1
    refine hK _ _ ?_
    clear hK K
    refine wpAny_take (i := 4) (v := ?va12) rfl (by kernel_rfl) (by kernel_rfl) (by kernel_rfl) (fun _ _ _ h => h) (Or.inl ⟨by kernel_rfl, ?ha12⟩) ?ra12
    case ha12 => (intro w; go_simp; first | done | (with_reducible rfl))
    refine wpAny_take (i := 5) (v := ?va13) rfl (by kernel_rfl) (by kernel_rfl) (by kernel_rfl) (fun _ _ _ h => h) (Or.inl ⟨by kernel_rfl, ?ha13⟩) ?ra13
    case ha13 => (intro w; go_simp; first | done | (with_reducible rfl))
    refine wpAny_ready (rs := [6]) (by kernel_rfl) (by simp) ?_
    refine AllReady.cons rfl (fun K hK => ?_) AllReady.nil
    go_simp
    refine hK _ _ ?_
    clear hK K
    refine wpAny_take (i := 9) (v := ?va14) rfl (by kernel_rfl) (by kernel_rfl) (by kernel_rfl) (fun _ _ _ h => h) (Or.inl ⟨by kernel_rfl, ?ha14⟩) ?ra14
    case ha14 => (intro w; go_simp; first | done | (with_reducible rfl))
    refine wpAny_take (i := 10) (v := ?va15) rfl (by kernel_rfl) (by kernel_rfl) (by kernel_rfl) (fun _ _ _ h => h) (Or.inl ⟨by kernel_rfl, ?ha15⟩) ?ra15
    case ha15 => (intro w; go_simp; first | done | (with_reducible rfl))
    refine wpAny_take (i := 11) (v := ?va16) rfl (by kernel_rfl) (by kernel_rfl) (by kernel_rfl) (fun _ _ _ h => h) (Or.inl ⟨by kernel_rfl, ?ha16⟩) ?ra16
    case ha16 => (intro w; go_simp; first | done | (with_reducible rfl))
    refine wpAny_ready (rs := [12]) (by kernel_rfl) (by simp) ?_
    refine AllReady.cons rfl (fun K hK => ?_) AllReady.nil
    go_simp
    refine hK _ _ ?_
    clear hK K
    refine wpAny_done (by kernel_rfl) ?_ _
    try go_simp
    go_end0
    refine ⟨rfl, ?_, ?_, ?_⟩
    · exact (H.out.d.keep Hb.out H.out.d.lt).far (by omega)
    · exact (HR.out.put1 HfP.out _).1
    · exact (Hb.out.mono Hbase.out).setCell (by exact Hgb2.out) _
  refine AllReady.cons rfl (fun K hK => ?_) AllReady.nil
  go_simp
  refine hK _ _ ?_
  clear hK K
  refine wpAny_ready (rs := [2]) (by kernel_rfl) (by simp) ?_
  refine AllReady.cons rfl (fun K hK => ?_) AllReady.nil
  go_simp
  refine hK _ _ ?_
  clear hK K
  refine wpAny_ready (rs := [3]) (by kernel_rfl) (by simp) ?_
  refine AllReady.cons rfl (fun K hK => ?_) AllReady.nil
  go_simp
  go_at_call 35
  refine (HF.out).mono ?_
  rintro e w1 ⟨rfl, hb⟩
  obtain ⟨y0, y1, y2, y3⟩ := box4 ((hb.block w.heap.size (World.block_lt_of_cell? X9 _ x1)).trans HXX.out)
  have Hb := Lib.hid (HBX.out.trans (hb.mono HBX.out.size))
  have HR := Lib.hid (HW.out.below Hb.out)
  obtain ⟨q0, q1, q2⟩ := (HA.out.keep Hgb.out Hb.out)
  have fz := HR.out.fz (P * 3 + 1)
  rw [Nat.zero_add] at q0 q1 q2
  clear hb y0 y3 x1
  refine hK _ _ ?_
  clear hK K
  refine wpAny_take (i := 4) (v := ?va17) rfl (by kernel_rfl) (by kernel_rfl) (by kernel_rfl) (fun _ _ _ h => h) (Or.inl ⟨by kernel_rfl, ?ha17⟩) ?ra17
  case ha17 => (intro w; go_simp; first | done | (with_reducible rfl))
  refine wpAny_take (i := 5) (v := ?va18) rfl (by kernel_rfl) (by kernel_rfl) (by kernel_rfl) (fun _ _ _ h => h) (Or.inl ⟨by kernel_rfl, ?ha18⟩) ?ra18
  case ha18 => (intro w; go_simp; first | done | (with_reducible rfl))
  refine wpAny_ready (rs := [6]) (by kernel_rfl) (by simp) ?_
  refine AllReady.cons rfl (fun K hK => ?_) AllReady.nil
  go_simp
  refine hK _ _ ?_
  clear hK K
  refine wpAny_take (i := 9) (v := ?va19) rfl (by kernel_rfl) (by kernel_rfl) (by kernel_rfl) (fun _ _ _ h => h) (Or.inl ⟨by kernel_rfl, ?ha19⟩) ?ra19
  case ha19 => (intro w; go_simp; first | done | (with_reducible rfl))
  refine wpAny_take (i := 10) (v := ?va20) rfl (by kernel_rfl) (by kernel_rfl) (by kernel_rfl) (fun _ _ _ h => h) (Or.inl ⟨by kernel_rfl, ?ha20⟩) ?ra20
  case ha20 => (intro w; go_simp; first | done | (with_reducible rfl))
  refine wpAny_take (i := 11) (v := ?va21) rfl (by kernel_rfl) (by kernel_rfl) (by kernel_rfl) (fun _ _ _ h => h) (Or.inl ⟨by kernel_rfl, ?ha21⟩) ?ra21
  case ha21 => (intro w; go_simp; first | done | (with_reducible rfl))
  refine wpAny_ready (rs := [12]) (by kernel_rfl) (by simp) ?_
  refine AllReady.cons rfl (fun K hK => ?_) AllReady.nil
  go_simp
  refine hK _ _ ?_
  clear hK K
  refine wpAny_done (by kernel_rfl) ?_ _
  try go_simp
  go_end0
  refine ⟨rfl, ?_, ?_, ?_⟩
  · exact (H.out.d.keep Hb.out H.out.d.lt).far (by omega)
  · exact (HR.out.put1 HfP.out _).1
  · exact (Hb.out.mono Hbase.out).setCell (by exact Hgb2.out) _

set_option maxHeartbeats 1000000 in
theorem sync_any (k : Int) (h : On w g (some ⟨gb, 0, none⟩) n cap down fuse fault fs) (hw : FRow w base (.slice (some ⟨gb, 0, none⟩) n cap) fs) (hne : g ≠ gb) (hf : found fs nm = some f) :
    Calls Try.prog 47 #[.pointer (some ⟨g, 0, none⟩), .agg (scells k nm dt z)] w fun e w' => e = .returned (.tuple #[]) ∧ Dk w' g 64 (.slice (some ⟨gb, 0, none⟩) n cap) down fuse fault ∧
      FRow w' base (.slice (some ⟨gb, 0, none⟩) n cap) (fs.set (pos fs nm) ⟨f.name, f.data, f.data.size⟩) ∧ Below base w w' := by
  have hz := okF_size (h.r.ok f (found_mem hf))
  obtain ⟨gb', off', e, hgb, hat⟩ := h.isat hf
  injection e with e
  injection e with e1 e2
  subst e1 e2
  have Hbase := Lib.hid (show base ≤ w.heap.size by have := hw.lt gb rfl; omega)
  have Hgb2 := Lib.hid (show base ≤ gb from (hw.lt gb rfl).1)
  have HfP := Lib.hid (found_some hf).1
  have HF := Lib.hid ((h.alloc (.cells (scells k nm dt z) 27)).file_yes hf)
  obtain ⟨P, hP⟩ : ∃ P, pos fs nm = P := ⟨_, rfl⟩
  rw [hP] at hat HfP HF ⊢
  have HA := Lib.hid hat
  have Hgb := Lib.hid hgb
  have H := Lib.hid h
  have HW := Lib.hid hw
  clear h hw hat hgb hP hf
  go_enter Try.func47, Try.ntmps47
  go_wp2_with fail
  refine (HF.out).mono ?_
  rintro e w1 ⟨rfl, hb⟩
  have Hb := Lib.hid (((Below.refl _ w).alloc (Nat.le_refl _) (.cells (scells k nm dt z) 27)).trans (hb.mono (by simp)))
  have HR := Lib.hid (HW.out.below Hb.out)
  obtain ⟨q0, q1, q2⟩ := (HA.out.keep Hgb.out Hb.out)
  have fz := HR.out.fz (P * 3 + 2)
  rw [Nat.zero_add] at q0 q1 q2
  clear hb
  go_wp2
  go_end0
  refine ⟨rfl, ?_, ?_, ?_⟩
  · exact (H.out.d.keep Hb.out H.out.d.lt).far (by omega)
  · exact (HR.out.put2 HfP.out _).1
  · exact (Hb.out.mono Hbase.out).setCell (by exact Hgb2.out) _

set_option maxHeartbeats 4000000 in
theorem cut_any (k : Int) (h : On w g (some ⟨gb, 0, none⟩) n cap down fuse fault fs) (hw : FRow w base (.slice (some ⟨gb, 0, none⟩) n cap) fs) (hne : g ≠ gb) (hf : found fs nm = some f) (hz0 : 0 ≤ z) (hz1 : z ≤ (f.data.size : Int)) :
    Calls Try.prog 49 #[.pointer (some ⟨g, 0, none⟩), .agg (scells k nm dt z)] w fun e w' => e = .returned (.tuple #[]) ∧ Dk w' g 64 (.slice (some ⟨gb, 0, none⟩) n cap) down fuse fault ∧
      FRow w' base (.slice (some ⟨gb, 0, none⟩) n cap) (fs.set (pos fs nm) ⟨f.name, f.data.extract 0 z.toNat, z⟩) ∧ Below base w w' := by
  have hz := okF_size (h.r.ok f (found_mem hf))
  obtain ⟨gb', off', e, hgb, hat⟩ := h.isat hf
  injection e with e
  injection e with e1 e2
  subst e1 e2
  have Hbase := Lib.hid (show base ≤ w.heap.size by have := hw.lt gb rfl; omega)
  have Hgb2 := Lib.hid (show base ≤ gb from (hw.lt gb rfl).1)
  have HfP := Lib.hid (found_some hf).1
  have HF := Lib.hid ((h.alloc (.cells (scells k nm dt z) 27)).file_yes hf)
  obtain ⟨P, hP⟩ : ∃ P, pos fs nm = P := ⟨_, rfl⟩
  rw [hP] at hat HfP HF ⊢
  have HA := Lib.hid hat
  have Hgb := Lib.hid hgb
  have H := Lib.hid h
  have HW := Lib.hid hw
  clear h hw hat hgb hP hf
  have hxx := blk_new w (.cells (scells k nm dt z) 27)
  have HXX := Lib.hid hxx; clear hxx
  go_enter Try.func49, Try.ntmps49
  go_wp2_with fail
  refine (HF.out).mono ?_
  rintro e w1 ⟨rfl, hb⟩
  have Hb := Lib.hid (((Below.refl _ w).alloc (Nat.le_refl _) (.cells (scells k nm dt z) 27)).trans (hb.mono (by simp)))
  have HR := Lib.hid (HW.out.below Hb.out)
  obtain ⟨q0, q1, q2⟩ := (HA.out.keep Hgb.out Hb.out)
  have fz := HR.out.fz (P * 3 + 1)
  have fz2 := HR.out.fz (P * 3 + 2)
  rw [Nat.zero_add] at q0 q1 q2
  obtain ⟨y0, y1, y2, y3⟩ := box4 ((hb.block w.heap.size (by simp)).trans HXX.out)
  have hgbw : gb ≠ w.heap.size := by have := Hgb.out; omega
  have hgbw' : w.heap.size ≠ gb := by omega
  clear hb y0 y2
  go_wp2
  go_region
  go_end0
  refine ⟨rfl, ?_, ?_, ?_⟩
  · exact ((H.out.d.keep Hb.out H.out.d.lt).far (gb := gb) (o := P * 3 + 1) (u := .string (f.data.extract 0 z.toNat)) (by omega)).far (by omega)
  · have h1 := (HR.out.put1 HfP.out (f.data.extract 0 z.toNat)).1
    have hlt : P < fs.length := (List.getElem?_eq_some_iff.1 HfP.out).1
    have h2 := (h1.put2 (i := P) (f := ⟨f.name, f.data.extract 0 z.toNat, f.syn⟩) (by rw [List.getElem?_set_self hlt]) z).1
    rw [List.set_set] at h2
    exact h2
  · exact (((Hb.out.mono Hbase.out).setCell (by exact Hgb2.out) _).setCell (by exact Hgb2.out) _).drew
end
end Go.Proofs.Ytcefhcailhediaa
