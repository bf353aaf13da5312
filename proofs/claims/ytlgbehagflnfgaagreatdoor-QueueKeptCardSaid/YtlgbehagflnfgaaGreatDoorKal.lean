/- SEGMENT: THE WALK OVER contents' add. -/
import Derived.Test.YtlgbehagflnfgaaGreatDoorKak
namespace Go.Proofs.YtlgbehagflnfgaaGreatDoor
open Go.RowKit Go.Shelf
attribute [local go_sem] Oper.semAt_some
set_option maxRecDepth 100000
set_option linter.unusedVariables false
set_option linter.unusedSimpArgs false

/-- how many bytes their frames have -/
def sumL (rs : List Rec) : Nat := (rs.map fun r => 16 + r.data.size).sum
theorem sumL_snoc (rs : List Rec) (r : Rec) : sumL (rs ++ [r]) = sumL rs + (16 + r.data.size) := by simp [sumL]
theorem framesF_seq : ∀ (k : Nat) (s : ByteArray) (n : Nat) (i : Nat) (r : Rec), (framesF k s n)[i]? = some r → r.seq = n + i
 | 0, s, n, i, r, h => by simp [framesF] at h
 | k + 1, s, n, i, r, h => by
  cases hf : firstM s (n : Int) with
  | none => rw [framesF_none hf] at h; simp at h
  | some d =>
   rw [framesF_some hf] at h
   cases i with
   | zero => simp at h; subst h; rfl
   | succ i => simp at h; have := framesF_seq k _ _ i r h; omega
theorem Kp.put {n₀ : Nat} {w : World} (hn : n₀ ≤ w.heap.size) (W : World) (l : Nat) (o o' : Obj) (hl : w.heap.size ≤ l) (h : W.heap[l]? = some o) (hc : o.isCells = false) (_ : o.isWalk = false) : Kp n₀ W (W.putObj l o') :=
 ⟨by simp, fun k hk => World.putObj_heap_other (by omega), fun k a d hb => by
  have hne : k ≠ l := by rintro rfl; rw [hb] at h; cases h; cases hc
  exact (World.putObj_heap_other hne).trans hb⟩
theorem frames_stop (Bs Bq n₀ : Nat) (s : ByteArray) (next : Nat) (hs : s.size ≤ 1000000000) (hnx : next ≤ 4611686018427387904) (hn : 4 ≤ n₀) (w0 : World) (hn0 : n₀ ≤ w0.heap.size) (hT : Tabs w0)
  (hbs : w0.cell? ⟨Bs, 0, none⟩ = some (.string s)) (hbq : w0.cell? ⟨Bq, 0, none⟩ = some (.int .u64 (next : Int))) (N : Nat) (hN : (framesL s next).length ≤ N) :
  SeqStopsK Fence.wide 4 Tryz.prog 127 #[.pointer (some ⟨Bs, 0, none⟩), .pointer (some ⟨Bq, 0, none⟩)] (fun x : Rec => #[.agg x.cells]) (Kp n₀) (fun xs => xs = framesL s next) (fun _ => True) N w0 := by
 intro l J Jx W hW hJ hJx hY h0
 exact frames_it l Bs Bq n₀ s next hs hnx hn W (hT.under hW) ((hW.cell (p := ⟨Bs, 0, none⟩) (World.block_lt_of_cell? w0 _ hbs)).trans hbs) ((hW.cell (p := ⟨Bq, 0, none⟩) (World.block_lt_of_cell? w0 _ hbq)).trans hbq) J Jx hJ N hN hY h0

theorem frames_any (w : World) (s : ByteArray) (n : Int) : Calls Tryz.prog 112 #[.string s, .int .u64 n] w fun e w' => e = .returned (.func (.func 127) #[] #[.pointer (some ⟨w.heap.size, 0, none⟩), .pointer (some ⟨w.heap.size + 1, 0, none⟩)]) ∧ (w.alloc (.cells #[.string s] 9)).alloc (.cells #[.int .u64 n] 25) = w' := by
 go_enter Tryz.func112, Tryz.ntmps112
 go_wp2
 go_ret
 exact ⟨rfl, rfl⟩

theorem box4' {w : World} {g : Nat} {x0 x1 x2 x3 : Value} {t : TypeId} (h : w.heap[g]? = some (.cells #[x0, x1, x2, x3] t (0, 0))) :
  w.cell? ⟨g, 0, none⟩ = some x0 ∧ w.cell? ⟨g, 1, none⟩ = some x1 ∧ w.cell? ⟨g, 2, none⟩ = some x2 ∧ w.cell? ⟨g, 3, none⟩ = some x3 :=
 ⟨cell_of_row w g 0 _ t (0, 0) h, cell_of_row w g 1 _ t (0, 0) h, cell_of_row w g 2 _ t (0, 0) h, cell_of_row w g 3 _ t (0, 0) h⟩

theorem sumL_le : ∀ (l : List Rec), sumL l ≤ 70000 * l.length
 | [] => by simp [sumL]
 | r :: l => by have := sumL_le l; have := r.h2; simp only [sumL, List.map_cons, List.sum_cons, List.length_cons] at *; omega
def lastN (n : Nat) (rs : List Rec) : Nat := match rs.getLast? with
 | some r => r.seq + 1
 | none => n
theorem lastN_snoc (n : Nat) (rs : List Rec) (r : Rec) : lastN n (rs ++ [r]) = r.seq + 1 := by simp [lastN]
theorem framesF_len : ∀ (k : Nat) (s : ByteArray) (n : Nat), (framesF k s n).length ≤ k
 | 0, s, n => by simp [framesF]
 | k + 1, s, n => by
  cases hf : firstM s (n : Int) with
  | none => rw [framesF_none hf]; simp
  | some d => rw [framesF_some hf]; have := framesF_len k (s.extract (16 + d.size) s.size) (n + 1); simp; omega
theorem framesL_len (s : ByteArray) (n : Nat) : (framesL s n).length ≤ s.size := framesF_len _ _ _
theorem lastN_frames (s : ByteArray) (n : Nat) : lastN n (framesL s n) = n + (framesL s n).length := by
 unfold lastN
 cases h : (framesL s n).getLast? with
 | none => rw [List.getLast?_eq_none_iff] at h; rw [h]; rfl
 | some r =>
  rw [List.getLast?_eq_getElem?] at h
  have h2 := framesF_seq _ _ _ _ r h
  have hpos : 0 < (framesL s n).length := by
   rcases Nat.eq_zero_or_pos (framesL s n).length with h0 | h0
   ·rw [List.eq_nil_of_length_eq_zero h0] at h; cases h
   ·exact h0
  show r.seq + 1 = _
  have : r.seq = n + ((framesL s n).length - 1) := h2
  omega
/-- the contents between two rounds -/
def CR (base C : Nat) (fr : Int) (nx : Nat) (mv : Value) (rs : List Rec) (pre : List Rec) (W : World) : Prop :=
 ∃ rv', W.heap[C]? = some (Obj.cells (ccells fr (lastN nx pre : Int) rv' mv) 100 (0, 0)) ∧ RRow W base rv' (rs ++ pre)
theorem cells_kept {W W' : World} {row : Option Nat} {k : Nat} {cs : Array Value} {T : TypeId} {m : Nat × Nat} (h : W.heap[k]? = some (Obj.cells cs T m)) (hg : W.grownBy W' row) (hr : ∀ r, row = some r → ∃ o : Obj, W.heap[r]? = some o ∧ o.isCells = false) : W'.heap[k]? = some (Obj.cells cs T m) := by
 refine (hg.block k (Array.getElem?_eq_some_iff.1 h).1 fun e => ?_).trans h
 obtain ⟨o, ho, hc⟩ := hr k e.symm
 rw [h] at ho; cases ho; cases hc
theorem RRow.kept {W W' : World} {row : Option Nat} {base : Nat} {v : Value} {rs : List Rec} (h : RRow W base v rs) (hg : W.grownBy W' row) (hr : ∀ r, row = some r → ∃ o : Obj, W.heap[r]? = some o ∧ o.isCells = false) : RRow W' base v rs := by
 refine ⟨h.1.kept hg ?_, h.2⟩
 rcases h.1.2 with ⟨hv, _⟩ | ⟨g, cap, cur, hv, _, hgc, _⟩
 ·left; rw [hv]; rfl
 ·right
  rw [hv]
  intro e
  obtain ⟨o, ho, hc⟩ := hr g (by simpa [Value.ownBlock] using e.symm)
  rw [hgc] at ho; cases ho; cases hc
theorem CR.own (base C : Nat) (fr : Int) (nx : Nat) (mv : Value) (rs : List Rec) : Go.Own (CR base C fr nx mv rs) := fun pre W W' row hs hg hr => by
 obtain ⟨rv, h1, h2⟩ := hs
 exact ⟨rv, cells_kept h1 hg hr, h2.kept hg hr⟩

set_option maxHeartbeats 4000000 in
theorem cadd_in (w : World) (base C : Nat) (fr : Int) (nx : Nat) (rv mv : Value) (rs : List Rec) (nm dt : ByteArray) (sy nu : Int) (hb4 : 4 ≤ base) (hbC : base ≤ C) (hT : Tabs w)
  (hc : w.heap[C]? = some (.cells (ccells fr (nx : Int) rv mv) 100 (0, 0))) (hrow : RRow w base rv rs) (hd : dt.size ≤ 1000000) (hnx : nx ≤ 4611686018427387904) (hrs : rs.length ≤ 900000000) :
  CallsIn Fence.wide 5 Tryz.prog 94 #[.pointer (some ⟨C, 0, none⟩), .agg #[.string nm, .string dt, .int .i64 sy, .int .u64 nu]] w fun e w' => e = .returned (.int .i64 (sumL (framesL dt nx) : Int)) ∧
   (∃ rv', w'.heap[C]? = some (.cells (ccells fr ((nx + (framesL dt nx).length : Nat) : Int) rv' mv) 100 (0, 0)) ∧ RRow w' base rv' (rs ++ framesL dt nx)) ∧ Below base w w' := by
 refine callsIn_of_wp_marks Tryz.func94 rfl trivial ?_ rfl
 simp only [Tryz.ntmps94, List.size_toArray, List.length_cons, List.length_nil, Nat.reduceAdd, Nat.reduceSub, Array.replicate_succ, Array.replicate_zero, List.push_toArray, List.append_toArray, List.nil_append, List.cons_append]
 have hltC : C < w.heap.size := (Array.getElem?_eq_some_iff.1 hc).1
 have HT := Lib.hid hT
 have Hc := Lib.hid hc
 have Hrow := Lib.hid hrow
 obtain ⟨W0, hW0⟩ : ∃ W, W = ((w.alloc (.cells #[.pointer (some ⟨C, 0, none⟩)] 163)).alloc (.cells #[.string nm, .string dt, .int .i64 sy, .int .u64 nu] 146)).alloc (.cells #[.int .i64 0] 3) := ⟨_, rfl⟩
 have hbel0 : Below w.heap.size w W0 := by rw [hW0]; exact (((Below.refl _ w).alloc (Nat.le_refl _) _).alloc (by simp) _).alloc (by simp; omega) _
 have hp0 : Boxed W0 w.heap.size 163 (.pointer (some ⟨C, 0, none⟩)) := by rw [hW0]; exact blk_alloc (blk_alloc (blk_new w _) _) _
 have hf0 : W0.heap[w.heap.size + 1]? = some (.cells #[.string nm, .string dt, .int .i64 sy, .int .u64 nu] 146 (0, 0)) := by
  have := blk_new (w.alloc (.cells #[.pointer (some ⟨C, 0, none⟩)] 163)) (.cells #[.string nm, .string dt, .int .i64 sy, .int .u64 nu] 146)
  rw [hW0]; exact blk_alloc (by simpa using this) _
 have hs0 : Boxed W0 (w.heap.size + 1 + 1) 3 (.int .i64 0) := by
  have := blk_new ((w.alloc (.cells #[.pointer (some ⟨C, 0, none⟩)] 163)).alloc (.cells #[.string nm, .string dt, .int .i64 sy, .int .u64 nu] 146)) (.cells #[.int .i64 0] 3)
  simp only [World.size_alloc] at this
  rw [hW0]; exact this
 have Hbel0 := Lib.hid hbel0
 have Hp := Lib.hid hp0
 have Hf := Lib.hid hf0
 have Hs := Lib.hid hs0
 have Hc0 := Lib.hid ((hbel0.block _ hltC).trans hc)
 have HT0 := Lib.hid (hT.under hbel0)
 clear hT hc hrow hbel0 hp0 hf0 hs0
 gi_wp2_with fail
 rw [← hW0]
 clear hW0
 refine Code.wpIn_mono (Q := fun e a' w' => e = .normal ∧ ∃ X9 u7 u8 u9 u10 u11 u12 u13, a' = ⟨#[(.pointer (some ⟨C, 0, none⟩)), (.agg #[.string nm, .string dt, .int .i64 sy, .int .u64 nu]), (.pointer (some ⟨w.heap.size, 0, none⟩)), (.pointer (some ⟨w.heap.size + 1, 0, none⟩)), (.int .i64 0), (.pointer (some ⟨w.heap.size + 1 + 1, 0, none⟩)), undef, u7, u8, u9, u10, u11, u12, u13, (.func (.func 127) #[] #[.pointer (some ⟨X9.heap.size, 0, none⟩), .pointer (some ⟨X9.heap.size + 1, 0, none⟩)]), undef, undef, undef, undef, undef, undef, undef, undef, undef, undef, undef, undef, undef, undef, undef, undef, undef, undef, undef, undef, undef, undef, undef, undef], []⟩ ∧ w' = (X9.alloc (.cells #[.string dt] 9)).alloc (.cells #[.int .u64 (nx : Int)] 25) ∧ Below W0.heap.size W0 X9) ?_ ?reg2
 case reg2 =>
  refine wpIn_region_any (by kernel_rfl) ?_
  obtain ⟨X9, hX⟩ : ∃ X, W0.drew = X := ⟨_, rfl⟩
  change wpAnyIn _ _ _ _ _ _ _ _ _ (W0.drew)
  rw [hX]
  have hbX : Below W0.heap.size W0 X9 := by rw [← hX]; exact (Below.refl _ W0).drew
  replace Hp := Lib.hid ((hbX.block _ Hp.out.lt).trans Hp.out)
  replace Hf := Lib.hid ((hbX.block _ (Array.getElem?_eq_some_iff.1 Hf.out).1).trans Hf.out)
  replace Hs := Lib.hid ((hbX.block _ Hs.out.lt).trans Hs.out)
  replace Hc0 := Lib.hid ((hbX.block _ (Array.getElem?_eq_some_iff.1 Hc0.out).1).trans Hc0.out)
  replace HT0 := Lib.hid (HT0.out.under hbX)
  replace Hbel0 := Lib.hid (Hbel0.out.trans (hbX.mono Hbel0.out.size))
  have HbX := Lib.hid hbX
  clear hbX hX
  have p0 := (show Boxed X9 w.heap.size 163 _ from Hp.out).cell
  obtain ⟨f0, f1, f2, f3⟩ := box4' Hf.out
  obtain ⟨c0, c1, c2, c3⟩ := box4' Hc0.out
  refine wpAnyIn_take (i := 0) (v := ?va1) rfl rfl (by kernel_rfl) (by kernel_rfl) (by kernel_rfl) (fun _ _ _ h => nomatch h.1) ⟨Or.inl ⟨by kernel_rfl, ?ha1⟩, fun _ => rfl⟩ ?ra1
  case ha1 => (intro w; go_simp; first | done | (with_reducible rfl))
  refine wpAnyIn_take (i := 1) (v := ?va2) rfl rfl (by kernel_rfl) (by kernel_rfl) (by kernel_rfl) (fun _ _ _ h => nomatch h.1) ⟨Or.inl ⟨by kernel_rfl, ?ha2⟩, fun _ => rfl⟩ ?ra2
  case ha2 => (intro w; go_simp; first | done | (with_reducible rfl))
  refine wpAnyIn_ready (rs := [2, 3]) (by kernel_rfl) (by simp) ?_
  refine AllReadyIn.cons rfl (fun K hK => ?_) ?_
  ·skip
   go_simp
   refine hK _ _ ?_
   clear hK K
   refine wpAnyIn_ready (rs := [3]) (by kernel_rfl) (by simp) ?_
   refine AllReadyIn.cons rfl (fun K hK => ?_) AllReadyIn.nil
   go_simp
   refine hK _ _ ?_
   clear hK K
   refine wpAnyIn_take (i := 4) (v := ?va3) rfl rfl (by kernel_rfl) (by kernel_rfl) (by kernel_rfl) (fun _ _ _ h => nomatch h.1) ⟨Or.inl ⟨by kernel_rfl, ?ha3⟩, fun _ => rfl⟩ ?ra3
   case ha3 => (intro w; go_simp; first | done | (with_reducible rfl))
   refine wpAnyIn_take (i := 5) (v := ?va4) rfl rfl (by kernel_rfl) (by kernel_rfl) (by kernel_rfl) (fun _ _ _ h => nomatch h.1) ⟨Or.inl ⟨by kernel_rfl, ?ha4⟩, fun _ => rfl⟩ ?ra4
   case ha4 => (intro w; go_simp; first | done | (with_reducible rfl))
   refine wpAnyIn_ready (rs := [6]) (by kernel_rfl) (by simp) ?_
   refine AllReadyIn.cons rfl (fun K hK => ?_) AllReadyIn.nil
   go_simp
   refine hK _ _ ?_
   clear hK K
   refine wpAnyIn_ready (rs := [7]) (by kernel_rfl) (by simp) ?_
   refine AllReadyIn.cons rfl (fun K hK => ?_) AllReadyIn.nil
   go_simp
   refine ⟨trivial, ?_⟩
   refine (callsIn_wide.2 (frames_any X9 dt (nx : Int))).mono ?_
   rintro e w2 ⟨rfl, rfl⟩
   refine hK _ _ ?_
   clear hK K
   refine wpAnyIn_done (by kernel_rfl) ?_ _
   first | exact ⟨rfl, X9, _, _, _, _, _, _, _, rfl, rfl, HbX.out⟩ | exact ⟨X9, _, _, _, _, _, _, _, rfl, rfl, HbX.out⟩
  refine AllReadyIn.cons rfl (fun K hK => ?_) AllReadyIn.nil
  go_simp
  refine hK _ _ ?_
  clear hK K
  refine wpAnyIn_take (i := 4) (v := ?va5) rfl rfl (by kernel_rfl) (by kernel_rfl) (by kernel_rfl) (fun _ _ _ h => nomatch h.1) ⟨Or.inl ⟨by kernel_rfl, ?ha5⟩, fun _ => rfl⟩ ?ra5
  case ha5 => (intro w; go_simp; first | done | (with_reducible rfl))
  refine wpAnyIn_take (i := 5) (v := ?va6) rfl rfl (by kernel_rfl) (by kernel_rfl) (by kernel_rfl) (fun _ _ _ h => nomatch h.1) ⟨Or.inl ⟨by kernel_rfl, ?ha6⟩, fun _ => rfl⟩ ?ra6
  case ha6 => (intro w; go_simp; first | done | (with_reducible rfl))
  refine wpAnyIn_ready (rs := [2, 6]) (by kernel_rfl) (by simp) ?_
  refine AllReadyIn.cons rfl (fun K hK => ?_) ?_
  ·skip
   go_simp
   refine hK _ _ ?_
   clear hK K
   refine wpAnyIn_ready (rs := [6]) (by kernel_rfl) (by simp) ?_
   refine AllReadyIn.cons rfl (fun K hK => ?_) AllReadyIn.nil
   go_simp
   refine hK _ _ ?_
   clear hK K
   refine wpAnyIn_ready (rs := [7]) (by kernel_rfl) (by simp) ?_
   refine AllReadyIn.cons rfl (fun K hK => ?_) AllReadyIn.nil
   go_simp
   refine ⟨trivial, ?_⟩
   refine (callsIn_wide.2 (frames_any X9 dt (nx : Int))).mono ?_
   rintro e w2 ⟨rfl, rfl⟩
   refine hK _ _ ?_
   clear hK K
   refine wpAnyIn_done (by kernel_rfl) ?_ _
   first | exact ⟨rfl, X9, _, _, _, _, _, _, _, rfl, rfl, HbX.out⟩ | exact ⟨X9, _, _, _, _, _, _, _, rfl, rfl, HbX.out⟩
  refine AllReadyIn.cons rfl (fun K hK => ?_) AllReadyIn.nil
  go_simp
  refine hK _ _ ?_
  clear hK K
  refine wpAnyIn_ready (rs := [2]) (by kernel_rfl) (by simp) ?_
  refine AllReadyIn.cons rfl (fun K hK => ?_) AllReadyIn.nil
  go_simp
  refine hK _ _ ?_
  clear hK K
  refine wpAnyIn_ready (rs := [7]) (by kernel_rfl) (by simp) ?_
  refine AllReadyIn.cons rfl (fun K hK => ?_) AllReadyIn.nil
  go_simp
  refine ⟨trivial, ?_⟩
  refine (callsIn_wide.2 (frames_any X9 dt (nx : Int))).mono ?_
  rintro e w2 ⟨rfl, rfl⟩
  refine hK _ _ ?_
  clear hK K
  refine wpAnyIn_done (by kernel_rfl) ?_ _
  first | exact ⟨rfl, X9, _, _, _, _, _, _, _, rfl, rfl, HbX.out⟩ | exact ⟨X9, _, _, _, _, _, _, _, rfl, rfl, HbX.out⟩
 rintro e a' w2 ⟨rfl, X9, u7, u8, u9, u10, u11, u12, u13, rfl, rfl, hbX⟩
 gi_wp2
 have hbl : Below X9.heap.size X9 ((X9.alloc (.cells #[.string dt] 9)).alloc (.cells #[.int .u64 (nx : Int)] 25)) := ((Below.refl _ X9).alloc (Nat.le_refl _) _).alloc (by simp) _
 obtain ⟨Wl, hWl⟩ : ∃ W, W = (X9.alloc (.cells #[.string dt] 9)).alloc (.cells #[.int .u64 (nx : Int)] 25) := ⟨_, rfl⟩
 have hq0 : Boxed Wl X9.heap.size 9 (.string dt) := by rw [hWl]; exact blk_alloc (blk_new X9 _) _
 have hq1 : Boxed Wl (X9.heap.size + 1) 25 (.int .u64 (nx : Int)) := by
  have := blk_new (X9.alloc (.cells #[.string dt] 9)) (.cells #[.int .u64 (nx : Int)] 25)
  simp only [World.size_alloc] at this
  rw [hWl]; exact this
 rw [← hWl] at hbl
 have hbW : Below W0.heap.size W0 Wl := hbX.trans (hbl.mono hbX.size)
 have hsz0 : w.heap.size + 1 + 1 < W0.heap.size := Hs.out.lt
 have hszl : W0.heap.size ≤ Wl.heap.size := hbW.size
 have hcW0 : C < W0.heap.size := by have := Hbel0.out.size; omega
 have hpl : Boxed Wl w.heap.size 163 (.pointer (some ⟨C, 0, none⟩)) := (hbW.block _ (by omega)).trans Hp.out
 have hsl : Boxed Wl (w.heap.size + 1 + 1) 3 (.int .i64 0) := (hbW.block _ (by omega)).trans Hs.out
 have hcl : Wl.heap[C]? = some (Obj.cells (ccells fr (nx : Int) rv mv) 100 (0, 0)) := (hbW.block _ hcW0).trans Hc0.out
 have hbwl : Below w.heap.size w Wl := Hbel0.out.trans (hbW.mono Hbel0.out.size)
 have hbb : base ≤ w.heap.size := by omega
 have hrl : RRow Wl base rv rs := ⟨World.ownsRow.kept (row := none) Hrow.out.1 ⟨hbwl.os, hbwl.tape, hbwl.output, hbwl.size, fun k hk _ => hbwl.block k hk⟩ (by cases h : rv.ownBlock with | none => exact .inl rfl | some g => exact .inr (by simp)), Hrow.out.2⟩
 have hTl : Tabs Wl := HT.out.under hbwl
 rw [← hWl]
 clear hWl
 refine wpIn_rangeFunc_ownH (F := Fence.wide) (n := 5) rfl (by omega) (gf := 127) (lb := #[.pointer (some ⟨X9.heap.size, 0, none⟩), .pointer (some ⟨X9.heap.size + 1, 0, none⟩)]) rfl trivial (enters_of Tryz.func127 (by kernel_rfl) rfl)
  (frames_stop X9.heap.size (X9.heap.size + 1) base dt nx (by omega) hnx hb4 Wl (by omega) hTl hq0.cell hq1.cell dt.size (framesL_len dt nx)) (fun h k => h.trans k) (fun W l o o' hl h hc hw => Kp.put (w := Wl) (by omega) W l o o' hl h hc hw) (Below.refl _ _) (by intro x; rfl)
  (fun pre W => ((Boxed W w.heap.size 163 (.pointer (some ⟨C, 0, none⟩)) ∧ Boxed W (w.heap.size + 1 + 1) 3 (.int .i64 (sumL pre : Int))) ∧ CR base C fr nx mv rs pre W) ∧ Below base w W)
  (fun _ _ _ => False)
  (OwnFrom.and (OwnFrom.and (OwnFrom.and (Go.Own.from (boxed_own _ _ _) _) (Go.Own.from (boxed_own _ _ (fun pre => .int .i64 (sumL pre : Int))) _)) (Go.Own.from (CR.own base C fr nx mv rs) _)) (ownFrom_below hbb (by omega)))
  (fun _ _ _ _ _ hs _ _ => hs)
  ⟨⟨⟨hpl, hsl⟩, rv, hcl, by simpa using hrl⟩, hbwl.mono hbb⟩
  (fun x a' W => ∃ Bx, w.heap.size + 1 + 1 < Bx ∧ W.heap[Bx]? = some (Obj.cells x.cells 110 (0, 0)) ∧ (∀ v, W.cell? ⟨C, 2, none⟩ = some v → v.ownBlock ≠ some Bx) ∧ C < Bx ∧ a' = ⟨#[(.pointer (some ⟨C, 0, none⟩)), (.agg #[.string nm, .string dt, .int .i64 sy, .int .u64 nu]), (.pointer (some ⟨w.heap.size, 0, none⟩)), (.pointer (some ⟨w.heap.size + 1, 0, none⟩)), (.int .i64 0), (.pointer (some ⟨w.heap.size + 1 + 1, 0, none⟩)), (.pointer (some ⟨Bx, 0, none⟩)), u7, u8, u9, u10, u11, u12, u13, (.func (.func 127) #[] #[.pointer (some ⟨X9.heap.size, 0, none⟩), .pointer (some ⟨X9.heap.size + 1, 0, none⟩)]), .agg x.cells, undef, undef, undef, undef, undef, undef, undef, undef, undef, undef, undef, undef, undef, undef, undef, undef, undef, undef, undef, undef, undef, undef, undef], []⟩)
  (fun x a' _ X Y row hs hg hr => by
   obtain ⟨Bx, h1, h2, h3, h4, h5⟩ := hs
   have hr' : ∀ r, row = some r → ∃ o : Obj, X.heap[r]? = some o ∧ o.isCells = false := fun r e => (hr r e).2
   have hCX : C < X.heap.size := Nat.lt_trans h4 (Array.getElem?_eq_some_iff.1 h2).1
   have hcs : Y.heap[C]? = X.heap[C]? := hg.block C hCX (fun e => by have := (hr C e.symm).1; omega)
   exact ⟨Bx, h1, cells_kept h2 hg hr', fun v hv => h3 v (by rw [← World.cell?_of_block (a := ⟨C, 2, none⟩) hcs]; exact hv), h4, h5⟩)
  ?assign ?body ?done ?stop
 case assign =>
  rintro l pre x W K ⟨⟨⟨hp, hs⟩, hcr⟩, hB⟩ hK
  gi_wp2
  have hlo : base ≤ W.heap.size := by have := hB.size; omega
  refine hK _ _ ((KeepsOthers.alloc _ _).from _) (Kp.alloc hlo _) ⟨⟨⟨hp.alloc _, hs.alloc _⟩, Go.Own.alloc (CR.own base C fr nx mv rs) _ hcr⟩, hB.alloc hlo _⟩ ⟨W.heap.size, hs.lt, blk_new W _, fun v hv => ?_, ?_, rfl⟩
  ·obtain ⟨rv', hc1, hc2⟩ := hcr
   have hv2 := cell_of_row _ C 2 _ 100 (0, 0) (blk_alloc hc1 (.cells x.cells 110))
   rw [hv2] at hv
   injection hv with hv
   subst hv
   intro e
   have := (hc2.1.lt _ e).2
   omega
  ·obtain ⟨rv', hc1, _⟩ := hcr
   exact (Array.getElem?_eq_some_iff.1 hc1).1
 case body =>
  rintro l pre x a' W hl ⟨r, hr⟩ ⟨⟨⟨hp, hs⟩, hcr⟩, hB⟩ ⟨Bx, hBx, hx, hxo, hCx, rfl⟩ hlt
  obtain ⟨rv', hc1, hc2⟩ := hcr
  have HB := Lib.hid (show BR base C w.heap.size (w.heap.size + 1 + 1) Bx Wl.heap.size fr (lastN nx pre : Int) mv (rs ++ pre) (sumL pre : Int) x w W W from ⟨hp, hs, ⟨rv', hc1, hc2, hxo _ (cell_of_row _ C 2 _ 100 (0, 0) hc1)⟩, hx, hB, KeepsFrom.refl _ _, Kp.refl W⟩)
  have hlen : (rs ++ pre).length ≤ 1000000000 := by simp; omega
  have hS : base ≤ w.heap.size + 1 + 1 := by omega
  have hsum : sumL pre ≤ 70000 * pre.length := sumL_le pre
  clear hp hs hc1 hc2 hx hB hxo hr Hp Hs Hf Hc Hrow Hc0 hpl hsl hcl hrl hq0 hq1 hbl hbW
  gi_wp2
  refine Code.wpIn_mono (Q := fun e a' w' => e = .normal ∧ ∃ u16 u17 u18 u19 u20 u21 u22 u23 u24 u25, a' = ⟨#[(.pointer (some ⟨C, 0, none⟩)), (.agg #[.string nm, .string dt, .int .i64 sy, .int .u64 nu]), (.pointer (some ⟨w.heap.size, 0, none⟩)), (.pointer (some ⟨w.heap.size + 1, 0, none⟩)), (.int .i64 0), (.pointer (some ⟨w.heap.size + 1 + 1, 0, none⟩)), (.pointer (some ⟨Bx, 0, none⟩)), u7, u8, u9, u10, u11, u12, u13, (.func (.func 127) #[] #[.pointer (some ⟨X9.heap.size, 0, none⟩), .pointer (some ⟨X9.heap.size + 1, 0, none⟩)]), .agg x.cells, u16, u17, u18, u19, u20, u21, u22, u23, u24, u25, undef, undef, undef, undef, undef, undef, undef, undef, undef, undef, undef, undef, undef], []⟩ ∧ BR base C w.heap.size (w.heap.size + 1 + 1) Bx Wl.heap.size fr (lastN nx pre : Int) mv (rs ++ pre ++ [x]) (sumL pre : Int) x w W w') ?_ ?reg16
  case reg16 =>
   refine wpIn_region_round l (by kernel_rfl) (by kernel_rfl) ?_
   obtain ⟨X, hX⟩ : ∃ X, W.drew = X := ⟨_, rfl⟩
   change wpAnyIn _ _ _ _ _ _ _ _ _ (W.drew)
   rw [hX]
   have HB2 := HB.out.drew
   rw [hX] at HB2
   clear hX
   obtain ⟨rv2, hc1, hc2, hc3⟩ := HB2.c
   have p0 := HB2.p.cell
   have s0 := HB2.s.cell
   have sf := HB2.s.frozen
   obtain ⟨c0, c1, c2, c3⟩ := box4' hc1
   obtain ⟨x0, x1⟩ := box2' HB2.x
   have hlp := HB2.p.lt
   have hls := HB2.s.lt
   have hlC := (Array.getElem?_eq_some_iff.1 hc1).1
   have hlx := (Array.getElem?_eq_some_iff.1 HB2.x).1
   have fC1 := frozen_of_row X C 1 _ 100 hc1
   obtain ⟨v7, w7, ⟨ad7, n7, cap7, rfl⟩, hrun, hp7, hc7, hB7⟩ := HB2.app hbC hlen rv2 hc1
   have HB3 := Lib.hid hB7
   have HB2h := Lib.hid HB2
   clear HB2 hB7 hc2 hc3
   refine wpAnyIn_ready (rs := [0, 1, 5]) (by kernel_rfl) (by simp) ?_
   refine AllReadyIn.cons rfl (fun K hK => ?_) ?_
   ·skip
    go_simp
    refine hK _ _ ?_
    clear hK K
    refine wpAnyIn_ready (rs := [1, 5]) (by kernel_rfl) (by simp) ?_
    refine AllReadyIn.cons rfl (fun K hK => ?_) ?_
    ·skip
     go_simp
     refine hK _ _ ?_
     clear hK K
     refine wpAnyIn_take (i := 2) (v := ?vd1) rfl rfl (by kernel_rfl) (by kernel_rfl) (by kernel_rfl) (fun _ _ _ h => nomatch h.1) ⟨Or.inl ⟨by kernel_rfl, ?hd1⟩, fun _ => rfl⟩ ?rd1
     case hd1 => (intro w; go_simp; first | done | (with_reducible rfl))
     refine wpAnyIn_take (i := 3) (v := ?vd2) rfl rfl (by kernel_rfl) (by kernel_rfl) (by kernel_rfl) (fun _ _ _ h => nomatch h.1) ⟨Or.inl ⟨by kernel_rfl, ?hd2⟩, fun _ => rfl⟩ ?rd2
     case hd2 => (intro w; go_simp; first | done | (with_reducible rfl))
     refine wpAnyIn_ready (rs := [4, 5]) (by kernel_rfl) (by simp) ?_
     refine AllReadyIn.cons rfl (fun K hK => ?_) ?_
     ·skip
      go_simp
      refine hK _ _ ?_
      clear hK K
      refine wpAnyIn_ready (rs := [5]) (by kernel_rfl) (by simp) ?_
      refine AllReadyIn.cons rfl (fun K hK => ?_) AllReadyIn.nil
      go_simp
      refine hK _ _ ?_
      clear hK K
      refine wpAnyIn_ready (rs := [6]) (by kernel_rfl) (by simp) ?_
      refine AllReadyIn.cons rfl (fun K hK => ?_) AllReadyIn.nil
      go_simp
      refine hK _ _ ?_
      clear hK K
      refine wpAnyIn_ready (rs := [7]) (by kernel_rfl) (by simp) ?_
      refine AllReadyIn.cons rfl (fun K hK => ?_) AllReadyIn.nil
      rw [if_pos (by kernel_rfl)]
      refine op_appIn (.tmp 20) (.tmp 22) rv2 (.slice (some ⟨X.heap.size, 0, none⟩) 1 1) (by kernel_rfl) (by kernel_rfl) rfl hrun ?_
      clear hrun
      have p7 := hp7.cell
      obtain ⟨d0, d1, d2, d3⟩ := box4' hc7
      have fC2 := frozen_of_row w7 C 2 _ 100 hc7
      refine hK _ _ ?_
      clear hK K
      refine wpAnyIn_take (i := 8) (v := ?vd3) rfl rfl (by kernel_rfl) (by kernel_rfl) (by kernel_rfl) (fun _ _ _ h => nomatch h.1) ⟨Or.inl ⟨by kernel_rfl, ?hd3⟩, fun _ => rfl⟩ ?rd3
      case hd3 => (intro w; go_simp; first | done | (with_reducible rfl))
      refine wpAnyIn_take (i := 9) (v := ?vd4) rfl rfl (by kernel_rfl) (by kernel_rfl) (by kernel_rfl) (fun _ _ _ h => nomatch h.1) ⟨Or.inl ⟨by kernel_rfl, ?hd4⟩, fun _ => rfl⟩ ?rd4
      case hd4 => (intro w; go_simp; first | done | (with_reducible rfl))
      refine wpAnyIn_ready (rs := [10]) (by kernel_rfl) (by simp) ?_
      refine AllReadyIn.cons rfl (fun K hK => ?_) AllReadyIn.nil
      go_simp
      refine hK _ _ ?_
      clear hK K
      refine wpAnyIn_done (by kernel_rfl) ?_ _
      exact ⟨rfl, _, _, _, _, _, _, _, _, _, _, rfl, HB3.out⟩
     refine AllReadyIn.cons rfl (fun K hK => ?_) AllReadyIn.nil
     go_simp
     refine hK _ _ ?_
     clear hK K
     refine wpAnyIn_ready (rs := [4, 6]) (by kernel_rfl) (by simp) ?_
     refine AllReadyIn.cons rfl (fun K hK => ?_) ?_
     ·skip
      go_simp
      refine hK _ _ ?_
      clear hK K
      refine wpAnyIn_ready (rs := [6]) (by kernel_rfl) (by simp) ?_
      refine AllReadyIn.cons rfl (fun K hK => ?_) AllReadyIn.nil
      go_simp
      refine hK _ _ ?_
      clear hK K
      refine wpAnyIn_ready (rs := [7]) (by kernel_rfl) (by simp) ?_
      refine AllReadyIn.cons rfl (fun K hK => ?_) AllReadyIn.nil
      rw [if_pos (by kernel_rfl)]
      refine op_appIn (.tmp 20) (.tmp 22) rv2 (.slice (some ⟨X.heap.size, 0, none⟩) 1 1) (by kernel_rfl) (by kernel_rfl) rfl hrun ?_
      clear hrun
      have p7 := hp7.cell
      obtain ⟨d0, d1, d2, d3⟩ := box4' hc7
      have fC2 := frozen_of_row w7 C 2 _ 100 hc7
      refine hK _ _ ?_
      clear hK K
      refine wpAnyIn_take (i := 8) (v := ?vd5) rfl rfl (by kernel_rfl) (by kernel_rfl) (by kernel_rfl) (fun _ _ _ h => nomatch h.1) ⟨Or.inl ⟨by kernel_rfl, ?hd5⟩, fun _ => rfl⟩ ?rd5
      case hd5 => (intro w; go_simp; first | done | (with_reducible rfl))
      refine wpAnyIn_take (i := 9) (v := ?vd6) rfl rfl (by kernel_rfl) (by kernel_rfl) (by kernel_rfl) (fun _ _ _ h => nomatch h.1) ⟨Or.inl ⟨by kernel_rfl, ?hd6⟩, fun _ => rfl⟩ ?rd6
      case hd6 => (intro w; go_simp; first | done | (with_reducible rfl))
      refine wpAnyIn_ready (rs := [10]) (by kernel_rfl) (by simp) ?_
      refine AllReadyIn.cons rfl (fun K hK => ?_) AllReadyIn.nil
      go_simp
      refine hK _ _ ?_
      clear hK K
      refine wpAnyIn_done (by kernel_rfl) ?_ _
      exact ⟨rfl, _, _, _, _, _, _, _, _, _, _, rfl, HB3.out⟩
     refine AllReadyIn.cons rfl (fun K hK => ?_) AllReadyIn.nil
     go_simp
     refine hK _ _ ?_
     clear hK K
     refine wpAnyIn_ready (rs := [4]) (by kernel_rfl) (by simp) ?_
     refine AllReadyIn.cons rfl (fun K hK => ?_) AllReadyIn.nil
     go_simp
     refine hK _ _ ?_
     clear hK K
     refine wpAnyIn_ready (rs := [7]) (by kernel_rfl) (by simp) ?_
     refine AllReadyIn.cons rfl (fun K hK => ?_) AllReadyIn.nil
     rw [if_pos (by kernel_rfl)]
     refine op_appIn (.tmp 20) (.tmp 22) rv2 (.slice (some ⟨X.heap.size, 0, none⟩) 1 1) (by kernel_rfl) (by kernel_rfl) rfl hrun ?_
     clear hrun
     have p7 := hp7.cell
     obtain ⟨d0, d1, d2, d3⟩ := box4' hc7
     have fC2 := frozen_of_row w7 C 2 _ 100 hc7
     refine hK _ _ ?_
     clear hK K
     refine wpAnyIn_take (i := 8) (v := ?vd7) rfl rfl (by kernel_rfl) (by kernel_rfl) (by kernel_rfl) (fun _ _ _ h => nomatch h.1) ⟨Or.inl ⟨by kernel_rfl, ?hd7⟩, fun _ => rfl⟩ ?rd7
     case hd7 => (intro w; go_simp; first | done | (with_reducible rfl))
     refine wpAnyIn_take (i := 9) (v := ?vd8) rfl rfl (by kernel_rfl) (by kernel_rfl) (by kernel_rfl) (fun _ _ _ h => nomatch h.1) ⟨Or.inl ⟨by kernel_rfl, ?hd8⟩, fun _ => rfl⟩ ?rd8
     case hd8 => (intro w; go_simp; first | done | (with_reducible rfl))
     refine wpAnyIn_ready (rs := [10]) (by kernel_rfl) (by simp) ?_
     refine AllReadyIn.cons rfl (fun K hK => ?_) AllReadyIn.nil
     go_simp
     refine hK _ _ ?_
     clear hK K
     refine wpAnyIn_done (by kernel_rfl) ?_ _
     exact ⟨rfl, _, _, _, _, _, _, _, _, _, _, rfl, HB3.out⟩
    refine AllReadyIn.cons rfl (fun K hK => ?_) AllReadyIn.nil
    go_simp
    refine hK _ _ ?_
    clear hK K
    refine wpAnyIn_ready (rs := [1, 6]) (by kernel_rfl) (by simp) ?_
    refine AllReadyIn.cons rfl (fun K hK => ?_) ?_
    ·skip
     go_simp
     refine hK _ _ ?_
     clear hK K
     refine wpAnyIn_take (i := 2) (v := ?vd9) rfl rfl (by kernel_rfl) (by kernel_rfl) (by kernel_rfl) (fun _ _ _ h => nomatch h.1) ⟨Or.inl ⟨by kernel_rfl, ?hd9⟩, fun _ => rfl⟩ ?rd9
     case hd9 => (intro w; go_simp; first | done | (with_reducible rfl))
     refine wpAnyIn_take (i := 3) (v := ?vd10) rfl rfl (by kernel_rfl) (by kernel_rfl) (by kernel_rfl) (fun _ _ _ h => nomatch h.1) ⟨Or.inl ⟨by kernel_rfl, ?hd10⟩, fun _ => rfl⟩ ?rd10
     case hd10 => (intro w; go_simp; first | done | (with_reducible rfl))
     refine wpAnyIn_ready (rs := [4, 6]) (by kernel_rfl) (by simp) ?_
     refine AllReadyIn.cons rfl (fun K hK => ?_) ?_
     ·skip
      go_simp
      refine hK _ _ ?_
      clear hK K
      refine wpAnyIn_ready (rs := [6]) (by kernel_rfl) (by simp) ?_
      refine AllReadyIn.cons rfl (fun K hK => ?_) AllReadyIn.nil
      go_simp
      refine hK _ _ ?_
      clear hK K
      refine wpAnyIn_ready (rs := [7]) (by kernel_rfl) (by simp) ?_
      refine AllReadyIn.cons rfl (fun K hK => ?_) AllReadyIn.nil
      rw [if_pos (by kernel_rfl)]
      refine op_appIn (.tmp 20) (.tmp 22) rv2 (.slice (some ⟨X.heap.size, 0, none⟩) 1 1) (by kernel_rfl) (by kernel_rfl) rfl hrun ?_
      clear hrun
      have p7 := hp7.cell
      obtain ⟨d0, d1, d2, d3⟩ := box4' hc7
      have fC2 := frozen_of_row w7 C 2 _ 100 hc7
      refine hK _ _ ?_
      clear hK K
      refine wpAnyIn_take (i := 8) (v := ?vd11) rfl rfl (by kernel_rfl) (by kernel_rfl) (by kernel_rfl) (fun _ _ _ h => nomatch h.1) ⟨Or.inl ⟨by kernel_rfl, ?hd11⟩, fun _ => rfl⟩ ?rd11
      case hd11 => (intro w; go_simp; first | done | (with_reducible rfl))
      refine wpAnyIn_take (i := 9) (v := ?vd12) rfl rfl (by kernel_rfl) (by kernel_rfl) (by kernel_rfl) (fun _ _ _ h => nomatch h.1) ⟨Or.inl ⟨by kernel_rfl, ?hd12⟩, fun _ => rfl⟩ ?rd12
      case hd12 => (intro w; go_simp; first | done | (with_reducible rfl))
      refine wpAnyIn_ready (rs := [10]) (by kernel_rfl) (by simp) ?_
      refine AllReadyIn.cons rfl (fun K hK => ?_) AllReadyIn.nil
      go_simp
      refine hK _ _ ?_
      clear hK K
      refine wpAnyIn_done (by kernel_rfl) ?_ _
      exact ⟨rfl, _, _, _, _, _, _, _, _, _, _, rfl, HB3.out⟩
     refine AllReadyIn.cons rfl (fun K hK => ?_) AllReadyIn.nil
     go_simp
     refine hK _ _ ?_
     clear hK K
     refine wpAnyIn_ready (rs := [4]) (by kernel_rfl) (by simp) ?_
     refine AllReadyIn.cons rfl (fun K hK => ?_) AllReadyIn.nil
     go_simp
     refine hK _ _ ?_
     clear hK K
     refine wpAnyIn_ready (rs := [7]) (by kernel_rfl) (by simp) ?_
     refine AllReadyIn.cons rfl (fun K hK => ?_) AllReadyIn.nil
     rw [if_pos (by kernel_rfl)]
     refine op_appIn (.tmp 20) (.tmp 22) rv2 (.slice (some ⟨X.heap.size, 0, none⟩) 1 1) (by kernel_rfl) (by kernel_rfl) rfl hrun ?_
     clear hrun
     have p7 := hp7.cell
     obtain ⟨d0, d1, d2, d3⟩ := box4' hc7
     have fC2 := frozen_of_row w7 C 2 _ 100 hc7
     refine hK _ _ ?_
     clear hK K
     refine wpAnyIn_take (i := 8) (v := ?vd13) rfl rfl (by kernel_rfl) (by kernel_rfl) (by kernel_rfl) (fun _ _ _ h => nomatch h.1) ⟨Or.inl ⟨by kernel_rfl, ?hd13⟩, fun _ => rfl⟩ ?rd13
     case hd13 => (intro w; go_simp; first | done | (with_reducible rfl))
     refine wpAnyIn_take (i := 9) (v := ?vd14) rfl rfl (by kernel_rfl) (by kernel_rfl) (by kernel_rfl) (fun _ _ _ h => nomatch h.1) ⟨Or.inl ⟨by kernel_rfl, ?hd14⟩, fun _ => rfl⟩ ?rd14
     case hd14 => (intro w; go_simp; first | done | (with_reducible rfl))
     refine wpAnyIn_ready (rs := [10]) (by kernel_rfl) (by simp) ?_
     refine AllReadyIn.cons rfl (fun K hK => ?_) AllReadyIn.nil
     go_simp
     refine hK _ _ ?_
     clear hK K
     refine wpAnyIn_done (by kernel_rfl) ?_ _
     exact ⟨rfl, _, _, _, _, _, _, _, _, _, _, rfl, HB3.out⟩
    refine AllReadyIn.cons rfl (fun K hK => ?_) AllReadyIn.nil
    go_simp
    refine hK _ _ ?_
    clear hK K
    refine wpAnyIn_ready (rs := [1]) (by kernel_rfl) (by simp) ?_
    refine AllReadyIn.cons rfl (fun K hK => ?_) AllReadyIn.nil
    go_simp
    refine hK _ _ ?_
    clear hK K
    refine wpAnyIn_take (i := 2) (v := ?vd15) rfl rfl (by kernel_rfl) (by kernel_rfl) (by kernel_rfl) (fun _ _ _ h => nomatch h.1) ⟨Or.inl ⟨by kernel_rfl, ?hd15⟩, fun _ => rfl⟩ ?rd15
    case hd15 => (intro w; go_simp; first | done | (with_reducible rfl))
    refine wpAnyIn_take (i := 3) (v := ?vd16) rfl rfl (by kernel_rfl) (by kernel_rfl) (by kernel_rfl) (fun _ _ _ h => nomatch h.1) ⟨Or.inl ⟨by kernel_rfl, ?hd16⟩, fun _ => rfl⟩ ?rd16
    case hd16 => (intro w; go_simp; first | done | (with_reducible rfl))
    refine wpAnyIn_ready (rs := [4]) (by kernel_rfl) (by simp) ?_
    refine AllReadyIn.cons rfl (fun K hK => ?_) AllReadyIn.nil
    go_simp
    refine hK _ _ ?_
    clear hK K
    refine wpAnyIn_ready (rs := [7]) (by kernel_rfl) (by simp) ?_
    refine AllReadyIn.cons rfl (fun K hK => ?_) AllReadyIn.nil
    rw [if_pos (by kernel_rfl)]
    refine op_appIn (.tmp 20) (.tmp 22) rv2 (.slice (some ⟨X.heap.size, 0, none⟩) 1 1) (by kernel_rfl) (by kernel_rfl) rfl hrun ?_
    clear hrun
    have p7 := hp7.cell
    obtain ⟨d0, d1, d2, d3⟩ := box4' hc7
    have fC2 := frozen_of_row w7 C 2 _ 100 hc7
    refine hK _ _ ?_
    clear hK K
    refine wpAnyIn_take (i := 8) (v := ?vd17) rfl rfl (by kernel_rfl) (by kernel_rfl) (by kernel_rfl) (fun _ _ _ h => nomatch h.1) ⟨Or.inl ⟨by kernel_rfl, ?hd17⟩, fun _ => rfl⟩ ?rd17
    case hd17 => (intro w; go_simp; first | done | (with_reducible rfl))
    refine wpAnyIn_take (i := 9) (v := ?vd18) rfl rfl (by kernel_rfl) (by kernel_rfl) (by kernel_rfl) (fun _ _ _ h => nomatch h.1) ⟨Or.inl ⟨by kernel_rfl, ?hd18⟩, fun _ => rfl⟩ ?rd18
    case hd18 => (intro w; go_simp; first | done | (with_reducible rfl))
    refine wpAnyIn_ready (rs := [10]) (by kernel_rfl) (by simp) ?_
    refine AllReadyIn.cons rfl (fun K hK => ?_) AllReadyIn.nil
    go_simp
    refine hK _ _ ?_
    clear hK K
    refine wpAnyIn_done (by kernel_rfl) ?_ _
    exact ⟨rfl, _, _, _, _, _, _, _, _, _, _, rfl, HB3.out⟩
   refine AllReadyIn.cons rfl (fun K hK => ?_) ?_
   ·skip
    go_simp
    refine hK _ _ ?_
    clear hK K
    refine wpAnyIn_take (i := 2) (v := ?vd19) rfl rfl (by kernel_rfl) (by kernel_rfl) (by kernel_rfl) (fun _ _ _ h => nomatch h.1) ⟨Or.inl ⟨by kernel_rfl, ?hd19⟩, fun _ => rfl⟩ ?rd19
    case hd19 => (intro w; go_simp; first | done | (with_reducible rfl))
    refine wpAnyIn_take (i := 3) (v := ?vd20) rfl rfl (by kernel_rfl) (by kernel_rfl) (by kernel_rfl) (fun _ _ _ h => nomatch h.1) ⟨Or.inl ⟨by kernel_rfl, ?hd20⟩, fun _ => rfl⟩ ?rd20
    case hd20 => (intro w; go_simp; first | done | (with_reducible rfl))
    refine wpAnyIn_ready (rs := [0, 4, 5]) (by kernel_rfl) (by simp) ?_
    refine AllReadyIn.cons rfl (fun K hK => ?_) ?_
    ·skip
     go_simp
     refine hK _ _ ?_
     clear hK K
     refine wpAnyIn_ready (rs := [4, 5]) (by kernel_rfl) (by simp) ?_
     refine AllReadyIn.cons rfl (fun K hK => ?_) ?_
     ·skip
      go_simp
      refine hK _ _ ?_
      clear hK K
      refine wpAnyIn_ready (rs := [5]) (by kernel_rfl) (by simp) ?_
      refine AllReadyIn.cons rfl (fun K hK => ?_) AllReadyIn.nil
      go_simp
      refine hK _ _ ?_
      clear hK K
      refine wpAnyIn_ready (rs := [6]) (by kernel_rfl) (by simp) ?_
      refine AllReadyIn.cons rfl (fun K hK => ?_) AllReadyIn.nil
      go_simp
      refine hK _ _ ?_
      clear hK K
      refine wpAnyIn_ready (rs := [7]) (by kernel_rfl) (by simp) ?_
      refine AllReadyIn.cons rfl (fun K hK => ?_) AllReadyIn.nil
      rw [if_pos (by kernel_rfl)]
      refine op_appIn (.tmp 20) (.tmp 22) rv2 (.slice (some ⟨X.heap.size, 0, none⟩) 1 1) (by kernel_rfl) (by kernel_rfl) rfl hrun ?_
      clear hrun
      have p7 := hp7.cell
      obtain ⟨d0, d1, d2, d3⟩ := box4' hc7
      have fC2 := frozen_of_row w7 C 2 _ 100 hc7
      refine hK _ _ ?_
      clear hK K
      refine wpAnyIn_take (i := 8) (v := ?vd21) rfl rfl (by kernel_rfl) (by kernel_rfl) (by kernel_rfl) (fun _ _ _ h => nomatch h.1) ⟨Or.inl ⟨by kernel_rfl, ?hd21⟩, fun _ => rfl⟩ ?rd21
      case hd21 => (intro w; go_simp; first | done | (with_reducible rfl))
      refine wpAnyIn_take (i := 9) (v := ?vd22) rfl rfl (by kernel_rfl) (by kernel_rfl) (by kernel_rfl) (fun _ _ _ h => nomatch h.1) ⟨Or.inl ⟨by kernel_rfl, ?hd22⟩, fun _ => rfl⟩ ?rd22
      case hd22 => (intro w; go_simp; first | done | (with_reducible rfl))
      refine wpAnyIn_ready (rs := [10]) (by kernel_rfl) (by simp) ?_
      refine AllReadyIn.cons rfl (fun K hK => ?_) AllReadyIn.nil
      go_simp
      refine hK _ _ ?_
      clear hK K
      refine wpAnyIn_done (by kernel_rfl) ?_ _
      exact ⟨rfl, _, _, _, _, _, _, _, _, _, _, rfl, HB3.out⟩
     refine AllReadyIn.cons rfl (fun K hK => ?_) AllReadyIn.nil
     go_simp
     refine hK _ _ ?_
     clear hK K
     refine wpAnyIn_ready (rs := [4, 6]) (by kernel_rfl) (by simp) ?_
     refine AllReadyIn.cons rfl (fun K hK => ?_) ?_
     ·skip
      go_simp
      refine hK _ _ ?_
      clear hK K
      refine wpAnyIn_ready (rs := [6]) (by kernel_rfl) (by simp) ?_
      refine AllReadyIn.cons rfl (fun K hK => ?_) AllReadyIn.nil
      go_simp
      refine hK _ _ ?_
      clear hK K
      refine wpAnyIn_ready (rs := [7]) (by kernel_rfl) (by simp) ?_
      refine AllReadyIn.cons rfl (fun K hK => ?_) AllReadyIn.nil
      rw [if_pos (by kernel_rfl)]
      refine op_appIn (.tmp 20) (.tmp 22) rv2 (.slice (some ⟨X.heap.size, 0, none⟩) 1 1) (by kernel_rfl) (by kernel_rfl) rfl hrun ?_
      clear hrun
      have p7 := hp7.cell
      obtain ⟨d0, d1, d2, d3⟩ := box4' hc7
      have fC2 := frozen_of_row w7 C 2 _ 100 hc7
      refine hK _ _ ?_
      clear hK K
      refine wpAnyIn_take (i := 8) (v := ?vd23) rfl rfl (by kernel_rfl) (by kernel_rfl) (by kernel_rfl) (fun _ _ _ h => nomatch h.1) ⟨Or.inl ⟨by kernel_rfl, ?hd23⟩, fun _ => rfl⟩ ?rd23
      case hd23 => (intro w; go_simp; first | done | (with_reducible rfl))
      refine wpAnyIn_take (i := 9) (v := ?vd24) rfl rfl (by kernel_rfl) (by kernel_rfl) (by kernel_rfl) (fun _ _ _ h => nomatch h.1) ⟨Or.inl ⟨by kernel_rfl, ?hd24⟩, fun _ => rfl⟩ ?rd24
      case hd24 => (intro w; go_simp; first | done | (with_reducible rfl))
      refine wpAnyIn_ready (rs := [10]) (by kernel_rfl) (by simp) ?_
      refine AllReadyIn.cons rfl (fun K hK => ?_) AllReadyIn.nil
      go_simp
      refine hK _ _ ?_
      clear hK K
      refine wpAnyIn_done (by kernel_rfl) ?_ _
      exact ⟨rfl, _, _, _, _, _, _, _, _, _, _, rfl, HB3.out⟩
     refine AllReadyIn.cons rfl (fun K hK => ?_) AllReadyIn.nil
     go_simp
     refine hK _ _ ?_
     clear hK K
     refine wpAnyIn_ready (rs := [4]) (by kernel_rfl) (by simp) ?_
     refine AllReadyIn.cons rfl (fun K hK => ?_) AllReadyIn.nil
     go_simp
     refine hK _ _ ?_
     clear hK K
     refine wpAnyIn_ready (rs := [7]) (by kernel_rfl) (by simp) ?_
     refine AllReadyIn.cons rfl (fun K hK => ?_) AllReadyIn.nil
     rw [if_pos (by kernel_rfl)]
     refine op_appIn (.tmp 20) (.tmp 22) rv2 (.slice (some ⟨X.heap.size, 0, none⟩) 1 1) (by kernel_rfl) (by kernel_rfl) rfl hrun ?_
     clear hrun
     have p7 := hp7.cell
     obtain ⟨d0, d1, d2, d3⟩ := box4' hc7
     have fC2 := frozen_of_row w7 C 2 _ 100 hc7
     refine hK _ _ ?_
     clear hK K
     refine wpAnyIn_take (i := 8) (v := ?vd25) rfl rfl (by kernel_rfl) (by kernel_rfl) (by kernel_rfl) (fun _ _ _ h => nomatch h.1) ⟨Or.inl ⟨by kernel_rfl, ?hd25⟩, fun _ => rfl⟩ ?rd25
     case hd25 => (intro w; go_simp; first | done | (with_reducible rfl))
     refine wpAnyIn_take (i := 9) (v := ?vd26) rfl rfl (by kernel_rfl) (by kernel_rfl) (by kernel_rfl) (fun _ _ _ h => nomatch h.1) ⟨Or.inl ⟨by kernel_rfl, ?hd26⟩, fun _ => rfl⟩ ?rd26
     case hd26 => (intro w; go_simp; first | done | (with_reducible rfl))
     refine wpAnyIn_ready (rs := [10]) (by kernel_rfl) (by simp) ?_
     refine AllReadyIn.cons rfl (fun K hK => ?_) AllReadyIn.nil
     go_simp
     refine hK _ _ ?_
     clear hK K
     refine wpAnyIn_done (by kernel_rfl) ?_ _
     exact ⟨rfl, _, _, _, _, _, _, _, _, _, _, rfl, HB3.out⟩
    refine AllReadyIn.cons rfl (fun K hK => ?_) ?_
    ·skip
     go_simp
     refine hK _ _ ?_
     clear hK K
     refine wpAnyIn_ready (rs := [0, 5]) (by kernel_rfl) (by simp) ?_
     refine AllReadyIn.cons rfl (fun K hK => ?_) ?_
     ·skip
      go_simp
      refine hK _ _ ?_
      clear hK K
      refine wpAnyIn_ready (rs := [5]) (by kernel_rfl) (by simp) ?_
      refine AllReadyIn.cons rfl (fun K hK => ?_) AllReadyIn.nil
      go_simp
      refine hK _ _ ?_
      clear hK K
      refine wpAnyIn_ready (rs := [6]) (by kernel_rfl) (by simp) ?_
      refine AllReadyIn.cons rfl (fun K hK => ?_) AllReadyIn.nil
      go_simp
      refine hK _ _ ?_
      clear hK K
      refine wpAnyIn_ready (rs := [7]) (by kernel_rfl) (by simp) ?_
      refine AllReadyIn.cons rfl (fun K hK => ?_) AllReadyIn.nil
      rw [if_pos (by kernel_rfl)]
      refine op_appIn (.tmp 20) (.tmp 22) rv2 (.slice (some ⟨X.heap.size, 0, none⟩) 1 1) (by kernel_rfl) (by kernel_rfl) rfl hrun ?_
      clear hrun
      have p7 := hp7.cell
      obtain ⟨d0, d1, d2, d3⟩ := box4' hc7
      have fC2 := frozen_of_row w7 C 2 _ 100 hc7
      refine hK _ _ ?_
      clear hK K
      refine wpAnyIn_take (i := 8) (v := ?vd27) rfl rfl (by kernel_rfl) (by kernel_rfl) (by kernel_rfl) (fun _ _ _ h => nomatch h.1) ⟨Or.inl ⟨by kernel_rfl, ?hd27⟩, fun _ => rfl⟩ ?rd27
      case hd27 => (intro w; go_simp; first | done | (with_reducible rfl))
      refine wpAnyIn_take (i := 9) (v := ?vd28) rfl rfl (by kernel_rfl) (by kernel_rfl) (by kernel_rfl) (fun _ _ _ h => nomatch h.1) ⟨Or.inl ⟨by kernel_rfl, ?hd28⟩, fun _ => rfl⟩ ?rd28
      case hd28 => (intro w; go_simp; first | done | (with_reducible rfl))
      refine wpAnyIn_ready (rs := [10]) (by kernel_rfl) (by simp) ?_
      refine AllReadyIn.cons rfl (fun K hK => ?_) AllReadyIn.nil
      go_simp
      refine hK _ _ ?_
      clear hK K
      refine wpAnyIn_done (by kernel_rfl) ?_ _
      exact ⟨rfl, _, _, _, _, _, _, _, _, _, _, rfl, HB3.out⟩
     refine AllReadyIn.cons rfl (fun K hK => ?_) AllReadyIn.nil
     go_simp
     refine hK _ _ ?_
     clear hK K
     refine wpAnyIn_ready (rs := [0, 6]) (by kernel_rfl) (by simp) ?_
     refine AllReadyIn.cons rfl (fun K hK => ?_) ?_
     ·skip
      go_simp
      refine hK _ _ ?_
      clear hK K
      refine wpAnyIn_ready (rs := [6]) (by kernel_rfl) (by simp) ?_
      refine AllReadyIn.cons rfl (fun K hK => ?_) AllReadyIn.nil
      go_simp
      refine hK _ _ ?_
      clear hK K
      refine wpAnyIn_ready (rs := [7]) (by kernel_rfl) (by simp) ?_
      refine AllReadyIn.cons rfl (fun K hK => ?_) AllReadyIn.nil
      rw [if_pos (by kernel_rfl)]
      refine op_appIn (.tmp 20) (.tmp 22) rv2 (.slice (some ⟨X.heap.size, 0, none⟩) 1 1) (by kernel_rfl) (by kernel_rfl) rfl hrun ?_
      clear hrun
      have p7 := hp7.cell
      obtain ⟨d0, d1, d2, d3⟩ := box4' hc7
      have fC2 := frozen_of_row w7 C 2 _ 100 hc7
      refine hK _ _ ?_
      clear hK K
      refine wpAnyIn_take (i := 8) (v := ?vd29) rfl rfl (by kernel_rfl) (by kernel_rfl) (by kernel_rfl) (fun _ _ _ h => nomatch h.1) ⟨Or.inl ⟨by kernel_rfl, ?hd29⟩, fun _ => rfl⟩ ?rd29
      case hd29 => (intro w; go_simp; first | done | (with_reducible rfl))
      refine wpAnyIn_take (i := 9) (v := ?vd30) rfl rfl (by kernel_rfl) (by kernel_rfl) (by kernel_rfl) (fun _ _ _ h => nomatch h.1) ⟨Or.inl ⟨by kernel_rfl, ?hd30⟩, fun _ => rfl⟩ ?rd30
      case hd30 => (intro w; go_simp; first | done | (with_reducible rfl))
      refine wpAnyIn_ready (rs := [10]) (by kernel_rfl) (by simp) ?_
      refine AllReadyIn.cons rfl (fun K hK => ?_) AllReadyIn.nil
      go_simp
      refine hK _ _ ?_
      clear hK K
      refine wpAnyIn_done (by kernel_rfl) ?_ _
      exact ⟨rfl, _, _, _, _, _, _, _, _, _, _, rfl, HB3.out⟩
     refine AllReadyIn.cons rfl (fun K hK => ?_) AllReadyIn.nil
     go_simp
     refine hK _ _ ?_
     clear hK K
     refine wpAnyIn_ready (rs := [0, 7]) (by kernel_rfl) (by simp) ?_
     refine AllReadyIn.cons rfl (fun K hK => ?_) ?_
     ·skip
      go_simp
      refine hK _ _ ?_
      clear hK K
      refine wpAnyIn_ready (rs := [7]) (by kernel_rfl) (by simp) ?_
      refine AllReadyIn.cons rfl (fun K hK => ?_) AllReadyIn.nil
      rw [if_pos (by kernel_rfl)]
      refine op_appIn (.tmp 20) (.tmp 22) rv2 (.slice (some ⟨X.heap.size, 0, none⟩) 1 1) (by kernel_rfl) (by kernel_rfl) rfl hrun ?_
      clear hrun
      have p7 := hp7.cell
      obtain ⟨d0, d1, d2, d3⟩ := box4' hc7
      have fC2 := frozen_of_row w7 C 2 _ 100 hc7
      refine hK _ _ ?_
      clear hK K
      refine wpAnyIn_take (i := 8) (v := ?vd31) rfl rfl (by kernel_rfl) (by kernel_rfl) (by kernel_rfl) (fun _ _ _ h => nomatch h.1) ⟨Or.inl ⟨by kernel_rfl, ?hd31⟩, fun _ => rfl⟩ ?rd31
      case hd31 => (intro w; go_simp; first | done | (with_reducible rfl))
      refine wpAnyIn_take (i := 9) (v := ?vd32) rfl rfl (by kernel_rfl) (by kernel_rfl) (by kernel_rfl) (fun _ _ _ h => nomatch h.1) ⟨Or.inl ⟨by kernel_rfl, ?hd32⟩, fun _ => rfl⟩ ?rd32
      case hd32 => (intro w; go_simp; first | done | (with_reducible rfl))
      refine wpAnyIn_ready (rs := [10]) (by kernel_rfl) (by simp) ?_
      refine AllReadyIn.cons rfl (fun K hK => ?_) AllReadyIn.nil
      go_simp
      refine hK _ _ ?_
      clear hK K
      refine wpAnyIn_done (by kernel_rfl) ?_ _
      exact ⟨rfl, _, _, _, _, _, _, _, _, _, _, rfl, HB3.out⟩
     refine AllReadyIn.cons rfl (fun K hK => ?_) AllReadyIn.nil
     rw [if_pos (by kernel_rfl)]
     refine op_appIn (.tmp 20) (.tmp 22) rv2 (.slice (some ⟨X.heap.size, 0, none⟩) 1 1) (by kernel_rfl) (by kernel_rfl) rfl hrun ?_
     clear hrun
     have p7 := hp7.cell
     obtain ⟨d0, d1, d2, d3⟩ := box4' hc7
     have fC2 := frozen_of_row w7 C 2 _ 100 hc7
     refine hK _ _ ?_
     clear hK K
     refine wpAnyIn_ready (rs := [0]) (by kernel_rfl) (by simp) ?_
     refine AllReadyIn.cons rfl (fun K hK => ?_) AllReadyIn.nil
     go_simp
     refine hK _ _ ?_
     clear hK K
     refine wpAnyIn_take (i := 8) (v := ?vd33) rfl rfl (by kernel_rfl) (by kernel_rfl) (by kernel_rfl) (fun _ _ _ h => nomatch h.1) ⟨Or.inl ⟨by kernel_rfl, ?hd33⟩, fun _ => rfl⟩ ?rd33
     case hd33 => (intro w; go_simp; first | done | (with_reducible rfl))
     refine wpAnyIn_take (i := 9) (v := ?vd34) rfl rfl (by kernel_rfl) (by kernel_rfl) (by kernel_rfl) (fun _ _ _ h => nomatch h.1) ⟨Or.inl ⟨by kernel_rfl, ?hd34⟩, fun _ => rfl⟩ ?rd34
     case hd34 => (intro w; go_simp; first | done | (with_reducible rfl))
     refine wpAnyIn_ready (rs := [10]) (by kernel_rfl) (by simp) ?_
     refine AllReadyIn.cons rfl (fun K hK => ?_) AllReadyIn.nil
     go_simp
     refine hK _ _ ?_
     clear hK K
     refine wpAnyIn_done (by kernel_rfl) ?_ _
     exact ⟨rfl, _, _, _, _, _, _, _, _, _, _, rfl, HB3.out⟩
    refine AllReadyIn.cons rfl (fun K hK => ?_) AllReadyIn.nil
    go_simp
    refine hK _ _ ?_
    clear hK K
    refine wpAnyIn_ready (rs := [0, 4, 6]) (by kernel_rfl) (by simp) ?_
    refine AllReadyIn.cons rfl (fun K hK => ?_) ?_
    ·skip
     go_simp
     refine hK _ _ ?_
     clear hK K
     refine wpAnyIn_ready (rs := [4, 6]) (by kernel_rfl) (by simp) ?_
     refine AllReadyIn.cons rfl (fun K hK => ?_) ?_
     ·skip
      go_simp
      refine hK _ _ ?_
      clear hK K
      refine wpAnyIn_ready (rs := [6]) (by kernel_rfl) (by simp) ?_
      refine AllReadyIn.cons rfl (fun K hK => ?_) AllReadyIn.nil
      go_simp
      refine hK _ _ ?_
      clear hK K
      refine wpAnyIn_ready (rs := [7]) (by kernel_rfl) (by simp) ?_
      refine AllReadyIn.cons rfl (fun K hK => ?_) AllReadyIn.nil
      rw [if_pos (by kernel_rfl)]
      refine op_appIn (.tmp 20) (.tmp 22) rv2 (.slice (some ⟨X.heap.size, 0, none⟩) 1 1) (by kernel_rfl) (by kernel_rfl) rfl hrun ?_
      clear hrun
      have p7 := hp7.cell
      obtain ⟨d0, d1, d2, d3⟩ := box4' hc7
      have fC2 := frozen_of_row w7 C 2 _ 100 hc7
      refine hK _ _ ?_
      clear hK K
      refine wpAnyIn_take (i := 8) (v := ?vd35) rfl rfl (by kernel_rfl) (by kernel_rfl) (by kernel_rfl) (fun _ _ _ h => nomatch h.1) ⟨Or.inl ⟨by kernel_rfl, ?hd35⟩, fun _ => rfl⟩ ?rd35
      case hd35 => (intro w; go_simp; first | done | (with_reducible rfl))
      refine wpAnyIn_take (i := 9) (v := ?vd36) rfl rfl (by kernel_rfl) (by kernel_rfl) (by kernel_rfl) (fun _ _ _ h => nomatch h.1) ⟨Or.inl ⟨by kernel_rfl, ?hd36⟩, fun _ => rfl⟩ ?rd36
      case hd36 => (intro w; go_simp; first | done | (with_reducible rfl))
      refine wpAnyIn_ready (rs := [10]) (by kernel_rfl) (by simp) ?_
      refine AllReadyIn.cons rfl (fun K hK => ?_) AllReadyIn.nil
      go_simp
      refine hK _ _ ?_
      clear hK K
      refine wpAnyIn_done (by kernel_rfl) ?_ _
      exact ⟨rfl, _, _, _, _, _, _, _, _, _, _, rfl, HB3.out⟩
     refine AllReadyIn.cons rfl (fun K hK => ?_) AllReadyIn.nil
     go_simp
     refine hK _ _ ?_
     clear hK K
     refine wpAnyIn_ready (rs := [4]) (by kernel_rfl) (by simp) ?_
     refine AllReadyIn.cons rfl (fun K hK => ?_) AllReadyIn.nil
     go_simp
     refine hK _ _ ?_
     clear hK K
     refine wpAnyIn_ready (rs := [7]) (by kernel_rfl) (by simp) ?_
     refine AllReadyIn.cons rfl (fun K hK => ?_) AllReadyIn.nil
     rw [if_pos (by kernel_rfl)]
     refine op_appIn (.tmp 20) (.tmp 22) rv2 (.slice (some ⟨X.heap.size, 0, none⟩) 1 1) (by kernel_rfl) (by kernel_rfl) rfl hrun ?_
     clear hrun
     have p7 := hp7.cell
     obtain ⟨d0, d1, d2, d3⟩ := box4' hc7
     have fC2 := frozen_of_row w7 C 2 _ 100 hc7
     refine hK _ _ ?_
     clear hK K
     refine wpAnyIn_take (i := 8) (v := ?vd37) rfl rfl (by kernel_rfl) (by kernel_rfl) (by kernel_rfl) (fun _ _ _ h => nomatch h.1) ⟨Or.inl ⟨by kernel_rfl, ?hd37⟩, fun _ => rfl⟩ ?rd37
     case hd37 => (intro w; go_simp; first | done | (with_reducible rfl))
     refine wpAnyIn_take (i := 9) (v := ?vd38) rfl rfl (by kernel_rfl) (by kernel_rfl) (by kernel_rfl) (fun _ _ _ h => nomatch h.1) ⟨Or.inl ⟨by kernel_rfl, ?hd38⟩, fun _ => rfl⟩ ?rd38
     case hd38 => (intro w; go_simp; first | done | (with_reducible rfl))
     refine wpAnyIn_ready (rs := [10]) (by kernel_rfl) (by simp) ?_
     refine AllReadyIn.cons rfl (fun K hK => ?_) AllReadyIn.nil
     go_simp
     refine hK _ _ ?_
     clear hK K
     refine wpAnyIn_done (by kernel_rfl) ?_ _
     exact ⟨rfl, _, _, _, _, _, _, _, _, _, _, rfl, HB3.out⟩
    refine AllReadyIn.cons rfl (fun K hK => ?_) ?_
    ·skip
     go_simp
     refine hK _ _ ?_
     clear hK K
     refine wpAnyIn_ready (rs := [0, 6]) (by kernel_rfl) (by simp) ?_
     refine AllReadyIn.cons rfl (fun K hK => ?_) ?_
     ·skip
      go_simp
      refine hK _ _ ?_
      clear hK K
      refine wpAnyIn_ready (rs := [6]) (by kernel_rfl) (by simp) ?_
      refine AllReadyIn.cons rfl (fun K hK => ?_) AllReadyIn.nil
      go_simp
      refine hK _ _ ?_
      clear hK K
      refine wpAnyIn_ready (rs := [7]) (by kernel_rfl) (by simp) ?_
      refine AllReadyIn.cons rfl (fun K hK => ?_) AllReadyIn.nil
      rw [if_pos (by kernel_rfl)]
      refine op_appIn (.tmp 20) (.tmp 22) rv2 (.slice (some ⟨X.heap.size, 0, none⟩) 1 1) (by kernel_rfl) (by kernel_rfl) rfl hrun ?_
      clear hrun
      have p7 := hp7.cell
      obtain ⟨d0, d1, d2, d3⟩ := box4' hc7
      have fC2 := frozen_of_row w7 C 2 _ 100 hc7
      refine hK _ _ ?_
      clear hK K
      refine wpAnyIn_take (i := 8) (v := ?vd39) rfl rfl (by kernel_rfl) (by kernel_rfl) (by kernel_rfl) (fun _ _ _ h => nomatch h.1) ⟨Or.inl ⟨by kernel_rfl, ?hd39⟩, fun _ => rfl⟩ ?rd39
      case hd39 => (intro w; go_simp; first | done | (with_reducible rfl))
      refine wpAnyIn_take (i := 9) (v := ?vd40) rfl rfl (by kernel_rfl) (by kernel_rfl) (by kernel_rfl) (fun _ _ _ h => nomatch h.1) ⟨Or.inl ⟨by kernel_rfl, ?hd40⟩, fun _ => rfl⟩ ?rd40
      case hd40 => (intro w; go_simp; first | done | (with_reducible rfl))
      refine wpAnyIn_ready (rs := [10]) (by kernel_rfl) (by simp) ?_
      refine AllReadyIn.cons rfl (fun K hK => ?_) AllReadyIn.nil
      go_simp
      refine hK _ _ ?_
      clear hK K
      refine wpAnyIn_done (by kernel_rfl) ?_ _
      exact ⟨rfl, _, _, _, _, _, _, _, _, _, _, rfl, HB3.out⟩
     refine AllReadyIn.cons rfl (fun K hK => ?_) AllReadyIn.nil
     go_simp
     refine hK _ _ ?_
     clear hK K
     refine wpAnyIn_ready (rs := [0, 7]) (by kernel_rfl) (by simp) ?_
     refine AllReadyIn.cons rfl (fun K hK => ?_) ?_
     ·skip
      go_simp
      refine hK _ _ ?_
      clear hK K
      refine wpAnyIn_ready (rs := [7]) (by kernel_rfl) (by simp) ?_
      refine AllReadyIn.cons rfl (fun K hK => ?_) AllReadyIn.nil
      rw [if_pos (by kernel_rfl)]
      refine op_appIn (.tmp 20) (.tmp 22) rv2 (.slice (some ⟨X.heap.size, 0, none⟩) 1 1) (by kernel_rfl) (by kernel_rfl) rfl hrun ?_
      clear hrun
      have p7 := hp7.cell
      obtain ⟨d0, d1, d2, d3⟩ := box4' hc7
      have fC2 := frozen_of_row w7 C 2 _ 100 hc7
      refine hK _ _ ?_
      clear hK K
      refine wpAnyIn_take (i := 8) (v := ?vd41) rfl rfl (by kernel_rfl) (by kernel_rfl) (by kernel_rfl) (fun _ _ _ h => nomatch h.1) ⟨Or.inl ⟨by kernel_rfl, ?hd41⟩, fun _ => rfl⟩ ?rd41
      case hd41 => (intro w; go_simp; first | done | (with_reducible rfl))
      refine wpAnyIn_take (i := 9) (v := ?vd42) rfl rfl (by kernel_rfl) (by kernel_rfl) (by kernel_rfl) (fun _ _ _ h => nomatch h.1) ⟨Or.inl ⟨by kernel_rfl, ?hd42⟩, fun _ => rfl⟩ ?rd42
      case hd42 => (intro w; go_simp; first | done | (with_reducible rfl))
      refine wpAnyIn_ready (rs := [10]) (by kernel_rfl) (by simp) ?_
      refine AllReadyIn.cons rfl (fun K hK => ?_) AllReadyIn.nil
      go_simp
      refine hK _ _ ?_
      clear hK K
      refine wpAnyIn_done (by kernel_rfl) ?_ _
      exact ⟨rfl, _, _, _, _, _, _, _, _, _, _, rfl, HB3.out⟩
     refine AllReadyIn.cons rfl (fun K hK => ?_) AllReadyIn.nil
     rw [if_pos (by kernel_rfl)]
     refine op_appIn (.tmp 20) (.tmp 22) rv2 (.slice (some ⟨X.heap.size, 0, none⟩) 1 1) (by kernel_rfl) (by kernel_rfl) rfl hrun ?_
     clear hrun
     have p7 := hp7.cell
     obtain ⟨d0, d1, d2, d3⟩ := box4' hc7
     have fC2 := frozen_of_row w7 C 2 _ 100 hc7
     refine hK _ _ ?_
     clear hK K
     refine wpAnyIn_ready (rs := [0]) (by kernel_rfl) (by simp) ?_
     refine AllReadyIn.cons rfl (fun K hK => ?_) AllReadyIn.nil
     go_simp
     refine hK _ _ ?_
     clear hK K
     refine wpAnyIn_take (i := 8) (v := ?vd43) rfl rfl (by kernel_rfl) (by kernel_rfl) (by kernel_rfl) (fun _ _ _ h => nomatch h.1) ⟨Or.inl ⟨by kernel_rfl, ?hd43⟩, fun _ => rfl⟩ ?rd43
     case hd43 => (intro w; go_simp; first | done | (with_reducible rfl))
     refine wpAnyIn_take (i := 9) (v := ?vd44) rfl rfl (by kernel_rfl) (by kernel_rfl) (by kernel_rfl) (fun _ _ _ h => nomatch h.1) ⟨Or.inl ⟨by kernel_rfl, ?hd44⟩, fun _ => rfl⟩ ?rd44
     case hd44 => (intro w; go_simp; first | done | (with_reducible rfl))
     refine wpAnyIn_ready (rs := [10]) (by kernel_rfl) (by simp) ?_
     refine AllReadyIn.cons rfl (fun K hK => ?_) AllReadyIn.nil
     go_simp
     refine hK _ _ ?_
     clear hK K
     refine wpAnyIn_done (by kernel_rfl) ?_ _
     exact ⟨rfl, _, _, _, _, _, _, _, _, _, _, rfl, HB3.out⟩
    refine AllReadyIn.cons rfl (fun K hK => ?_) AllReadyIn.nil
    go_simp
    refine hK _ _ ?_
    clear hK K
    refine wpAnyIn_ready (rs := [0, 4]) (by kernel_rfl) (by simp) ?_
    refine AllReadyIn.cons rfl (fun K hK => ?_) ?_
    ·skip
     go_simp
     refine hK _ _ ?_
     clear hK K
     refine wpAnyIn_ready (rs := [4]) (by kernel_rfl) (by simp) ?_
     refine AllReadyIn.cons rfl (fun K hK => ?_) AllReadyIn.nil
     go_simp
     refine hK _ _ ?_
     clear hK K
     refine wpAnyIn_ready (rs := [7]) (by kernel_rfl) (by simp) ?_
     refine AllReadyIn.cons rfl (fun K hK => ?_) AllReadyIn.nil
     rw [if_pos (by kernel_rfl)]
     refine op_appIn (.tmp 20) (.tmp 22) rv2 (.slice (some ⟨X.heap.size, 0, none⟩) 1 1) (by kernel_rfl) (by kernel_rfl) rfl hrun ?_
     clear hrun
     have p7 := hp7.cell
     obtain ⟨d0, d1, d2, d3⟩ := box4' hc7
     have fC2 := frozen_of_row w7 C 2 _ 100 hc7
     refine hK _ _ ?_
     clear hK K
     refine wpAnyIn_take (i := 8) (v := ?vd45) rfl rfl (by kernel_rfl) (by kernel_rfl) (by kernel_rfl) (fun _ _ _ h => nomatch h.1) ⟨Or.inl ⟨by kernel_rfl, ?hd45⟩, fun _ => rfl⟩ ?rd45
     case hd45 => (intro w; go_simp; first | done | (with_reducible rfl))
     refine wpAnyIn_take (i := 9) (v := ?vd46) rfl rfl (by kernel_rfl) (by kernel_rfl) (by kernel_rfl) (fun _ _ _ h => nomatch h.1) ⟨Or.inl ⟨by kernel_rfl, ?hd46⟩, fun _ => rfl⟩ ?rd46
     case hd46 => (intro w; go_simp; first | done | (with_reducible rfl))
     refine wpAnyIn_ready (rs := [10]) (by kernel_rfl) (by simp) ?_
     refine AllReadyIn.cons rfl (fun K hK => ?_) AllReadyIn.nil
     go_simp
     refine hK _ _ ?_
     clear hK K
     refine wpAnyIn_done (by kernel_rfl) ?_ _
     exact ⟨rfl, _, _, _, _, _, _, _, _, _, _, rfl, HB3.out⟩
    refine AllReadyIn.cons rfl (fun K hK => ?_) AllReadyIn.nil
    go_simp
    refine hK _ _ ?_
    clear hK K
    refine wpAnyIn_ready (rs := [0, 7]) (by kernel_rfl) (by simp) ?_
    refine AllReadyIn.cons rfl (fun K hK => ?_) ?_
    ·skip
     go_simp
     refine hK _ _ ?_
     clear hK K
     refine wpAnyIn_ready (rs := [7]) (by kernel_rfl) (by simp) ?_
     refine AllReadyIn.cons rfl (fun K hK => ?_) AllReadyIn.nil
     rw [if_pos (by kernel_rfl)]
     refine op_appIn (.tmp 20) (.tmp 22) rv2 (.slice (some ⟨X.heap.size, 0, none⟩) 1 1) (by kernel_rfl) (by kernel_rfl) rfl hrun ?_
     clear hrun
     have p7 := hp7.cell
     obtain ⟨d0, d1, d2, d3⟩ := box4' hc7
     have fC2 := frozen_of_row w7 C 2 _ 100 hc7
     refine hK _ _ ?_
     clear hK K
     refine wpAnyIn_take (i := 8) (v := ?vd47) rfl rfl (by kernel_rfl) (by kernel_rfl) (by kernel_rfl) (fun _ _ _ h => nomatch h.1) ⟨Or.inl ⟨by kernel_rfl, ?hd47⟩, fun _ => rfl⟩ ?rd47
     case hd47 => (intro w; go_simp; first | done | (with_reducible rfl))
     refine wpAnyIn_take (i := 9) (v := ?vd48) rfl rfl (by kernel_rfl) (by kernel_rfl) (by kernel_rfl) (fun _ _ _ h => nomatch h.1) ⟨Or.inl ⟨by kernel_rfl, ?hd48⟩, fun _ => rfl⟩ ?rd48
     case hd48 => (intro w; go_simp; first | done | (with_reducible rfl))
     refine wpAnyIn_ready (rs := [10]) (by kernel_rfl) (by simp) ?_
     refine AllReadyIn.cons rfl (fun K hK => ?_) AllReadyIn.nil
     go_simp
     refine hK _ _ ?_
     clear hK K
     refine wpAnyIn_done (by kernel_rfl) ?_ _
     exact ⟨rfl, _, _, _, _, _, _, _, _, _, _, rfl, HB3.out⟩
    refine AllReadyIn.cons rfl (fun K hK => ?_) AllReadyIn.nil
    rw [if_pos (by kernel_rfl)]
    refine op_appIn (.tmp 20) (.tmp 22) rv2 (.slice (some ⟨X.heap.size, 0, none⟩) 1 1) (by kernel_rfl) (by kernel_rfl) rfl hrun ?_
    clear hrun
    have p7 := hp7.cell
    obtain ⟨d0, d1, d2, d3⟩ := box4' hc7
    have fC2 := frozen_of_row w7 C 2 _ 100 hc7
    refine hK _ _ ?_
    clear hK K
    refine wpAnyIn_ready (rs := [0]) (by kernel_rfl) (by simp) ?_
    refine AllReadyIn.cons rfl (fun K hK => ?_) AllReadyIn.nil
    go_simp
    refine hK _ _ ?_
    clear hK K
    refine wpAnyIn_take (i := 8) (v := ?vd49) rfl rfl (by kernel_rfl) (by kernel_rfl) (by kernel_rfl) (fun _ _ _ h => nomatch h.1) ⟨Or.inl ⟨by kernel_rfl, ?hd49⟩, fun _ => rfl⟩ ?rd49
    case hd49 => (intro w; go_simp; first | done | (with_reducible rfl))
    refine wpAnyIn_take (i := 9) (v := ?vd50) rfl rfl (by kernel_rfl) (by kernel_rfl) (by kernel_rfl) (fun _ _ _ h => nomatch h.1) ⟨Or.inl ⟨by kernel_rfl, ?hd50⟩, fun _ => rfl⟩ ?rd50
    case hd50 => (intro w; go_simp; first | done | (with_reducible rfl))
    refine wpAnyIn_ready (rs := [10]) (by kernel_rfl) (by simp) ?_
    refine AllReadyIn.cons rfl (fun K hK => ?_) AllReadyIn.nil
    go_simp
    refine hK _ _ ?_
    clear hK K
    refine wpAnyIn_done (by kernel_rfl) ?_ _
    exact ⟨rfl, _, _, _, _, _, _, _, _, _, _, rfl, HB3.out⟩
   refine AllReadyIn.cons rfl (fun K hK => ?_) AllReadyIn.nil
   go_simp
   refine hK _ _ ?_
   clear hK K
   refine wpAnyIn_ready (rs := [0, 1, 6]) (by kernel_rfl) (by simp) ?_
   refine AllReadyIn.cons rfl (fun K hK => ?_) ?_
   ·skip
    go_simp
    refine hK _ _ ?_
    clear hK K
    refine wpAnyIn_ready (rs := [1, 6]) (by kernel_rfl) (by simp) ?_
    refine AllReadyIn.cons rfl (fun K hK => ?_) ?_
    ·skip
     go_simp
     refine hK _ _ ?_
     clear hK K
     refine wpAnyIn_take (i := 2) (v := ?vd51) rfl rfl (by kernel_rfl) (by kernel_rfl) (by kernel_rfl) (fun _ _ _ h => nomatch h.1) ⟨Or.inl ⟨by kernel_rfl, ?hd51⟩, fun _ => rfl⟩ ?rd51
     case hd51 => (intro w; go_simp; first | done | (with_reducible rfl))
     refine wpAnyIn_take (i := 3) (v := ?vd52) rfl rfl (by kernel_rfl) (by kernel_rfl) (by kernel_rfl) (fun _ _ _ h => nomatch h.1) ⟨Or.inl ⟨by kernel_rfl, ?hd52⟩, fun _ => rfl⟩ ?rd52
     case hd52 => (intro w; go_simp; first | done | (with_reducible rfl))
     refine wpAnyIn_ready (rs := [4, 6]) (by kernel_rfl) (by simp) ?_
     refine AllReadyIn.cons rfl (fun K hK => ?_) ?_
     ·skip
      go_simp
      refine hK _ _ ?_
      clear hK K
      refine wpAnyIn_ready (rs := [6]) (by kernel_rfl) (by simp) ?_
      refine AllReadyIn.cons rfl (fun K hK => ?_) AllReadyIn.nil
      go_simp
      refine hK _ _ ?_
      clear hK K
      refine wpAnyIn_ready (rs := [7]) (by kernel_rfl) (by simp) ?_
      refine AllReadyIn.cons rfl (fun K hK => ?_) AllReadyIn.nil
      rw [if_pos (by kernel_rfl)]
      refine op_appIn (.tmp 20) (.tmp 22) rv2 (.slice (some ⟨X.heap.size, 0, none⟩) 1 1) (by kernel_rfl) (by kernel_rfl) rfl hrun ?_
      clear hrun
      have p7 := hp7.cell
      obtain ⟨d0, d1, d2, d3⟩ := box4' hc7
      have fC2 := frozen_of_row w7 C 2 _ 100 hc7
      refine hK _ _ ?_
      clear hK K
      refine wpAnyIn_take (i := 8) (v := ?vd53) rfl rfl (by kernel_rfl) (by kernel_rfl) (by kernel_rfl) (fun _ _ _ h => nomatch h.1) ⟨Or.inl ⟨by kernel_rfl, ?hd53⟩, fun _ => rfl⟩ ?rd53
      case hd53 => (intro w; go_simp; first | done | (with_reducible rfl))
      refine wpAnyIn_take (i := 9) (v := ?vd54) rfl rfl (by kernel_rfl) (by kernel_rfl) (by kernel_rfl) (fun _ _ _ h => nomatch h.1) ⟨Or.inl ⟨by kernel_rfl, ?hd54⟩, fun _ => rfl⟩ ?rd54
      case hd54 => (intro w; go_simp; first | done | (with_reducible rfl))
      refine wpAnyIn_ready (rs := [10]) (by kernel_rfl) (by simp) ?_
      refine AllReadyIn.cons rfl (fun K hK => ?_) AllReadyIn.nil
      go_simp
      refine hK _ _ ?_
      clear hK K
      refine wpAnyIn_done (by kernel_rfl) ?_ _
      exact ⟨rfl, _, _, _, _, _, _, _, _, _, _, rfl, HB3.out⟩
     refine AllReadyIn.cons rfl (fun K hK => ?_) AllReadyIn.nil
     go_simp
     refine hK _ _ ?_
     clear hK K
     refine wpAnyIn_ready (rs := [4]) (by kernel_rfl) (by simp) ?_
     refine AllReadyIn.cons rfl (fun K hK => ?_) AllReadyIn.nil
     go_simp
     refine hK _ _ ?_
     clear hK K
     refine wpAnyIn_ready (rs := [7]) (by kernel_rfl) (by simp) ?_
     refine AllReadyIn.cons rfl (fun K hK => ?_) AllReadyIn.nil
     rw [if_pos (by kernel_rfl)]
     refine op_appIn (.tmp 20) (.tmp 22) rv2 (.slice (some ⟨X.heap.size, 0, none⟩) 1 1) (by kernel_rfl) (by kernel_rfl) rfl hrun ?_
     clear hrun
     have p7 := hp7.cell
     obtain ⟨d0, d1, d2, d3⟩ := box4' hc7
     have fC2 := frozen_of_row w7 C 2 _ 100 hc7
     refine hK _ _ ?_
     clear hK K
     refine wpAnyIn_take (i := 8) (v := ?vd55) rfl rfl (by kernel_rfl) (by kernel_rfl) (by kernel_rfl) (fun _ _ _ h => nomatch h.1) ⟨Or.inl ⟨by kernel_rfl, ?hd55⟩, fun _ => rfl⟩ ?rd55
     case hd55 => (intro w; go_simp; first | done | (with_reducible rfl))
     refine wpAnyIn_take (i := 9) (v := ?vd56) rfl rfl (by kernel_rfl) (by kernel_rfl) (by kernel_rfl) (fun _ _ _ h => nomatch h.1) ⟨Or.inl ⟨by kernel_rfl, ?hd56⟩, fun _ => rfl⟩ ?rd56
     case hd56 => (intro w; go_simp; first | done | (with_reducible rfl))
     refine wpAnyIn_ready (rs := [10]) (by kernel_rfl) (by simp) ?_
     refine AllReadyIn.cons rfl (fun K hK => ?_) AllReadyIn.nil
     go_simp
     refine hK _ _ ?_
     clear hK K
     refine wpAnyIn_done (by kernel_rfl) ?_ _
     exact ⟨rfl, _, _, _, _, _, _, _, _, _, _, rfl, HB3.out⟩
    refine AllReadyIn.cons rfl (fun K hK => ?_) AllReadyIn.nil
    go_simp
    refine hK _ _ ?_
    clear hK K
    refine wpAnyIn_ready (rs := [1]) (by kernel_rfl) (by simp) ?_
    refine AllReadyIn.cons rfl (fun K hK => ?_) AllReadyIn.nil
    go_simp
    refine hK _ _ ?_
    clear hK K
    refine wpAnyIn_take (i := 2) (v := ?vd57) rfl rfl (by kernel_rfl) (by kernel_rfl) (by kernel_rfl) (fun _ _ _ h => nomatch h.1) ⟨Or.inl ⟨by kernel_rfl, ?hd57⟩, fun _ => rfl⟩ ?rd57
    case hd57 => (intro w; go_simp; first | done | (with_reducible rfl))
    refine wpAnyIn_take (i := 3) (v := ?vd58) rfl rfl (by kernel_rfl) (by kernel_rfl) (by kernel_rfl) (fun _ _ _ h => nomatch h.1) ⟨Or.inl ⟨by kernel_rfl, ?hd58⟩, fun _ => rfl⟩ ?rd58
    case hd58 => (intro w; go_simp; first | done | (with_reducible rfl))
    refine wpAnyIn_ready (rs := [4]) (by kernel_rfl) (by simp) ?_
    refine AllReadyIn.cons rfl (fun K hK => ?_) AllReadyIn.nil
    go_simp
    refine hK _ _ ?_
    clear hK K
    refine wpAnyIn_ready (rs := [7]) (by kernel_rfl) (by simp) ?_
    refine AllReadyIn.cons rfl (fun K hK => ?_) AllReadyIn.nil
    rw [if_pos (by kernel_rfl)]
    refine op_appIn (.tmp 20) (.tmp 22) rv2 (.slice (some ⟨X.heap.size, 0, none⟩) 1 1) (by kernel_rfl) (by kernel_rfl) rfl hrun ?_
    clear hrun
    have p7 := hp7.cell
    obtain ⟨d0, d1, d2, d3⟩ := box4' hc7
    have fC2 := frozen_of_row w7 C 2 _ 100 hc7
    refine hK _ _ ?_
    clear hK K
    refine wpAnyIn_take (i := 8) (v := ?vd59) rfl rfl (by kernel_rfl) (by kernel_rfl) (by kernel_rfl) (fun _ _ _ h => nomatch h.1) ⟨Or.inl ⟨by kernel_rfl, ?hd59⟩, fun _ => rfl⟩ ?rd59
    case hd59 => (intro w; go_simp; first | done | (with_reducible rfl))
    refine wpAnyIn_take (i := 9) (v := ?vd60) rfl rfl (by kernel_rfl) (by kernel_rfl) (by kernel_rfl) (fun _ _ _ h => nomatch h.1) ⟨Or.inl ⟨by kernel_rfl, ?hd60⟩, fun _ => rfl⟩ ?rd60
    case hd60 => (intro w; go_simp; first | done | (with_reducible rfl))
    refine wpAnyIn_ready (rs := [10]) (by kernel_rfl) (by simp) ?_
    refine AllReadyIn.cons rfl (fun K hK => ?_) AllReadyIn.nil
    go_simp
    refine hK _ _ ?_
    clear hK K
    refine wpAnyIn_done (by kernel_rfl) ?_ _
    exact ⟨rfl, _, _, _, _, _, _, _, _, _, _, rfl, HB3.out⟩
   refine AllReadyIn.cons rfl (fun K hK => ?_) ?_
   ·skip
    go_simp
    refine hK _ _ ?_
    clear hK K
    refine wpAnyIn_take (i := 2) (v := ?vd61) rfl rfl (by kernel_rfl) (by kernel_rfl) (by kernel_rfl) (fun _ _ _ h => nomatch h.1) ⟨Or.inl ⟨by kernel_rfl, ?hd61⟩, fun _ => rfl⟩ ?rd61
    case hd61 => (intro w; go_simp; first | done | (with_reducible rfl))
    refine wpAnyIn_take (i := 3) (v := ?vd62) rfl rfl (by kernel_rfl) (by kernel_rfl) (by kernel_rfl) (fun _ _ _ h => nomatch h.1) ⟨Or.inl ⟨by kernel_rfl, ?hd62⟩, fun _ => rfl⟩ ?rd62
    case hd62 => (intro w; go_simp; first | done | (with_reducible rfl))
    refine wpAnyIn_ready (rs := [0, 4, 6]) (by kernel_rfl) (by simp) ?_
    refine AllReadyIn.cons rfl (fun K hK => ?_) ?_
    ·skip
     go_simp
     refine hK _ _ ?_
     clear hK K
     refine wpAnyIn_ready (rs := [4, 6]) (by kernel_rfl) (by simp) ?_
     refine AllReadyIn.cons rfl (fun K hK => ?_) ?_
     ·skip
      go_simp
      refine hK _ _ ?_
      clear hK K
      refine wpAnyIn_ready (rs := [6]) (by kernel_rfl) (by simp) ?_
      refine AllReadyIn.cons rfl (fun K hK => ?_) AllReadyIn.nil
      go_simp
      refine hK _ _ ?_
      clear hK K
      refine wpAnyIn_ready (rs := [7]) (by kernel_rfl) (by simp) ?_
      refine AllReadyIn.cons rfl (fun K hK => ?_) AllReadyIn.nil
      rw [if_pos (by kernel_rfl)]
      refine op_appIn (.tmp 20) (.tmp 22) rv2 (.slice (some ⟨X.heap.size, 0, none⟩) 1 1) (by kernel_rfl) (by kernel_rfl) rfl hrun ?_
      clear hrun
      have p7 := hp7.cell
      obtain ⟨d0, d1, d2, d3⟩ := box4' hc7
      have fC2 := frozen_of_row w7 C 2 _ 100 hc7
      refine hK _ _ ?_
      clear hK K
      refine wpAnyIn_take (i := 8) (v := ?vd63) rfl rfl (by kernel_rfl) (by kernel_rfl) (by kernel_rfl) (fun _ _ _ h => nomatch h.1) ⟨Or.inl ⟨by kernel_rfl, ?hd63⟩, fun _ => rfl⟩ ?rd63
      case hd63 => (intro w; go_simp; first | done | (with_reducible rfl))
      refine wpAnyIn_take (i := 9) (v := ?vd64) rfl rfl (by kernel_rfl) (by kernel_rfl) (by kernel_rfl) (fun _ _ _ h => nomatch h.1) ⟨Or.inl ⟨by kernel_rfl, ?hd64⟩, fun _ => rfl⟩ ?rd64
      case hd64 => (intro w; go_simp; first | done | (with_reducible rfl))
      refine wpAnyIn_ready (rs := [10]) (by kernel_rfl) (by simp) ?_
      refine AllReadyIn.cons rfl (fun K hK => ?_) AllReadyIn.nil
      go_simp
      refine hK _ _ ?_
      clear hK K
      refine wpAnyIn_done (by kernel_rfl) ?_ _
      exact ⟨rfl, _, _, _, _, _, _, _, _, _, _, rfl, HB3.out⟩
     refine AllReadyIn.cons rfl (fun K hK => ?_) AllReadyIn.nil
     go_simp
     refine hK _ _ ?_
     clear hK K
     refine wpAnyIn_ready (rs := [4]) (by kernel_rfl) (by simp) ?_
     refine AllReadyIn.cons rfl (fun K hK => ?_) AllReadyIn.nil
     go_simp
     refine hK _ _ ?_
     clear hK K
     refine wpAnyIn_ready (rs := [7]) (by kernel_rfl) (by simp) ?_
     refine AllReadyIn.cons rfl (fun K hK => ?_) AllReadyIn.nil
     rw [if_pos (by kernel_rfl)]
     refine op_appIn (.tmp 20) (.tmp 22) rv2 (.slice (some ⟨X.heap.size, 0, none⟩) 1 1) (by kernel_rfl) (by kernel_rfl) rfl hrun ?_
     clear hrun
     have p7 := hp7.cell
     obtain ⟨d0, d1, d2, d3⟩ := box4' hc7
     have fC2 := frozen_of_row w7 C 2 _ 100 hc7
     refine hK _ _ ?_
     clear hK K
     refine wpAnyIn_take (i := 8) (v := ?vd65) rfl rfl (by kernel_rfl) (by kernel_rfl) (by kernel_rfl) (fun _ _ _ h => nomatch h.1) ⟨Or.inl ⟨by kernel_rfl, ?hd65⟩, fun _ => rfl⟩ ?rd65
     case hd65 => (intro w; go_simp; first | done | (with_reducible rfl))
     refine wpAnyIn_take (i := 9) (v := ?vd66) rfl rfl (by kernel_rfl) (by kernel_rfl) (by kernel_rfl) (fun _ _ _ h => nomatch h.1) ⟨Or.inl ⟨by kernel_rfl, ?hd66⟩, fun _ => rfl⟩ ?rd66
     case hd66 => (intro w; go_simp; first | done | (with_reducible rfl))
     refine wpAnyIn_ready (rs := [10]) (by kernel_rfl) (by simp) ?_
     refine AllReadyIn.cons rfl (fun K hK => ?_) AllReadyIn.nil
     go_simp
     refine hK _ _ ?_
     clear hK K
     refine wpAnyIn_done (by kernel_rfl) ?_ _
     exact ⟨rfl, _, _, _, _, _, _, _, _, _, _, rfl, HB3.out⟩
    refine AllReadyIn.cons rfl (fun K hK => ?_) ?_
    ·skip
     go_simp
     refine hK _ _ ?_
     clear hK K
     refine wpAnyIn_ready (rs := [0, 6]) (by kernel_rfl) (by simp) ?_
     refine AllReadyIn.cons rfl (fun K hK => ?_) ?_
     ·skip
      go_simp
      refine hK _ _ ?_
      clear hK K
      refine wpAnyIn_ready (rs := [6]) (by kernel_rfl) (by simp) ?_
      refine AllReadyIn.cons rfl (fun K hK => ?_) AllReadyIn.nil
      go_simp
      refine hK _ _ ?_
      clear hK K
      refine wpAnyIn_ready (rs := [7]) (by kernel_rfl) (by simp) ?_
      refine AllReadyIn.cons rfl (fun K hK => ?_) AllReadyIn.nil
      rw [if_pos (by kernel_rfl)]
      refine op_appIn (.tmp 20) (.tmp 22) rv2 (.slice (some ⟨X.heap.size, 0, none⟩) 1 1) (by kernel_rfl) (by kernel_rfl) rfl hrun ?_
      clear hrun
      have p7 := hp7.cell
      obtain ⟨d0, d1, d2, d3⟩ := box4' hc7
      have fC2 := frozen_of_row w7 C 2 _ 100 hc7
      refine hK _ _ ?_
      clear hK K
      refine wpAnyIn_take (i := 8) (v := ?vd67) rfl rfl (by kernel_rfl) (by kernel_rfl) (by kernel_rfl) (fun _ _ _ h => nomatch h.1) ⟨Or.inl ⟨by kernel_rfl, ?hd67⟩, fun _ => rfl⟩ ?rd67
      case hd67 => (intro w; go_simp; first | done | (with_reducible rfl))
      refine wpAnyIn_take (i := 9) (v := ?vd68) rfl rfl (by kernel_rfl) (by kernel_rfl) (by kernel_rfl) (fun _ _ _ h => nomatch h.1) ⟨Or.inl ⟨by kernel_rfl, ?hd68⟩, fun _ => rfl⟩ ?rd68
      case hd68 => (intro w; go_simp; first | done | (with_reducible rfl))
      refine wpAnyIn_ready (rs := [10]) (by kernel_rfl) (by simp) ?_
      refine AllReadyIn.cons rfl (fun K hK => ?_) AllReadyIn.nil
      go_simp
      refine hK _ _ ?_
      clear hK K
      refine wpAnyIn_done (by kernel_rfl) ?_ _
      exact ⟨rfl, _, _, _, _, _, _, _, _, _, _, rfl, HB3.out⟩
     refine AllReadyIn.cons rfl (fun K hK => ?_) AllReadyIn.nil
     go_simp
     refine hK _ _ ?_
     clear hK K
     refine wpAnyIn_ready (rs := [0, 7]) (by kernel_rfl) (by simp) ?_
     refine AllReadyIn.cons rfl (fun K hK => ?_) ?_
     ·skip
      go_simp
      refine hK _ _ ?_
      clear hK K
      refine wpAnyIn_ready (rs := [7]) (by kernel_rfl) (by simp) ?_
      refine AllReadyIn.cons rfl (fun K hK => ?_) AllReadyIn.nil
      rw [if_pos (by kernel_rfl)]
      refine op_appIn (.tmp 20) (.tmp 22) rv2 (.slice (some ⟨X.heap.size, 0, none⟩) 1 1) (by kernel_rfl) (by kernel_rfl) rfl hrun ?_
      clear hrun
      have p7 := hp7.cell
      obtain ⟨d0, d1, d2, d3⟩ := box4' hc7
      have fC2 := frozen_of_row w7 C 2 _ 100 hc7
      refine hK _ _ ?_
      clear hK K
      refine wpAnyIn_take (i := 8) (v := ?vd69) rfl rfl (by kernel_rfl) (by kernel_rfl) (by kernel_rfl) (fun _ _ _ h => nomatch h.1) ⟨Or.inl ⟨by kernel_rfl, ?hd69⟩, fun _ => rfl⟩ ?rd69
      case hd69 => (intro w; go_simp; first | done | (with_reducible rfl))
      refine wpAnyIn_take (i := 9) (v := ?vd70) rfl rfl (by kernel_rfl) (by kernel_rfl) (by kernel_rfl) (fun _ _ _ h => nomatch h.1) ⟨Or.inl ⟨by kernel_rfl, ?hd70⟩, fun _ => rfl⟩ ?rd70
      case hd70 => (intro w; go_simp; first | done | (with_reducible rfl))
      refine wpAnyIn_ready (rs := [10]) (by kernel_rfl) (by simp) ?_
      refine AllReadyIn.cons rfl (fun K hK => ?_) AllReadyIn.nil
      go_simp
      refine hK _ _ ?_
      clear hK K
      refine wpAnyIn_done (by kernel_rfl) ?_ _
      exact ⟨rfl, _, _, _, _, _, _, _, _, _, _, rfl, HB3.out⟩
     refine AllReadyIn.cons rfl (fun K hK => ?_) AllReadyIn.nil
     rw [if_pos (by kernel_rfl)]
     refine op_appIn (.tmp 20) (.tmp 22) rv2 (.slice (some ⟨X.heap.size, 0, none⟩) 1 1) (by kernel_rfl) (by kernel_rfl) rfl hrun ?_
     clear hrun
     have p7 := hp7.cell
     obtain ⟨d0, d1, d2, d3⟩ := box4' hc7
     have fC2 := frozen_of_row w7 C 2 _ 100 hc7
     refine hK _ _ ?_
     clear hK K
     refine wpAnyIn_ready (rs := [0]) (by kernel_rfl) (by simp) ?_
     refine AllReadyIn.cons rfl (fun K hK => ?_) AllReadyIn.nil
     go_simp
     refine hK _ _ ?_
     clear hK K
     refine wpAnyIn_take (i := 8) (v := ?vd71) rfl rfl (by kernel_rfl) (by kernel_rfl) (by kernel_rfl) (fun _ _ _ h => nomatch h.1) ⟨Or.inl ⟨by kernel_rfl, ?hd71⟩, fun _ => rfl⟩ ?rd71
     case hd71 => (intro w; go_simp; first | done | (with_reducible rfl))
     refine wpAnyIn_take (i := 9) (v := ?vd72) rfl rfl (by kernel_rfl) (by kernel_rfl) (by kernel_rfl) (fun _ _ _ h => nomatch h.1) ⟨Or.inl ⟨by kernel_rfl, ?hd72⟩, fun _ => rfl⟩ ?rd72
     case hd72 => (intro w; go_simp; first | done | (with_reducible rfl))
     refine wpAnyIn_ready (rs := [10]) (by kernel_rfl) (by simp) ?_
     refine AllReadyIn.cons rfl (fun K hK => ?_) AllReadyIn.nil
     go_simp
     refine hK _ _ ?_
     clear hK K
     refine wpAnyIn_done (by kernel_rfl) ?_ _
     exact ⟨rfl, _, _, _, _, _, _, _, _, _, _, rfl, HB3.out⟩
    refine AllReadyIn.cons rfl (fun K hK => ?_) AllReadyIn.nil
    go_simp
    refine hK _ _ ?_
    clear hK K
    refine wpAnyIn_ready (rs := [0, 4]) (by kernel_rfl) (by simp) ?_
    refine AllReadyIn.cons rfl (fun K hK => ?_) ?_
    ·skip
     go_simp
     refine hK _ _ ?_
     clear hK K
     refine wpAnyIn_ready (rs := [4]) (by kernel_rfl) (by simp) ?_
     refine AllReadyIn.cons rfl (fun K hK => ?_) AllReadyIn.nil
     go_simp
     refine hK _ _ ?_
     clear hK K
     refine wpAnyIn_ready (rs := [7]) (by kernel_rfl) (by simp) ?_
     refine AllReadyIn.cons rfl (fun K hK => ?_) AllReadyIn.nil
     rw [if_pos (by kernel_rfl)]
     refine op_appIn (.tmp 20) (.tmp 22) rv2 (.slice (some ⟨X.heap.size, 0, none⟩) 1 1) (by kernel_rfl) (by kernel_rfl) rfl hrun ?_
     clear hrun
     have p7 := hp7.cell
     obtain ⟨d0, d1, d2, d3⟩ := box4' hc7
     have fC2 := frozen_of_row w7 C 2 _ 100 hc7
     refine hK _ _ ?_
     clear hK K
     refine wpAnyIn_take (i := 8) (v := ?vd73) rfl rfl (by kernel_rfl) (by kernel_rfl) (by kernel_rfl) (fun _ _ _ h => nomatch h.1) ⟨Or.inl ⟨by kernel_rfl, ?hd73⟩, fun _ => rfl⟩ ?rd73
     case hd73 => (intro w; go_simp; first | done | (with_reducible rfl))
     refine wpAnyIn_take (i := 9) (v := ?vd74) rfl rfl (by kernel_rfl) (by kernel_rfl) (by kernel_rfl) (fun _ _ _ h => nomatch h.1) ⟨Or.inl ⟨by kernel_rfl, ?hd74⟩, fun _ => rfl⟩ ?rd74
     case hd74 => (intro w; go_simp; first | done | (with_reducible rfl))
     refine wpAnyIn_ready (rs := [10]) (by kernel_rfl) (by simp) ?_
     refine AllReadyIn.cons rfl (fun K hK => ?_) AllReadyIn.nil
     go_simp
     refine hK _ _ ?_
     clear hK K
     refine wpAnyIn_done (by kernel_rfl) ?_ _
     exact ⟨rfl, _, _, _, _, _, _, _, _, _, _, rfl, HB3.out⟩
    refine AllReadyIn.cons rfl (fun K hK => ?_) AllReadyIn.nil
    go_simp
    refine hK _ _ ?_
    clear hK K
    refine wpAnyIn_ready (rs := [0, 7]) (by kernel_rfl) (by simp) ?_
    refine AllReadyIn.cons rfl (fun K hK => ?_) ?_
    ·skip
     go_simp
     refine hK _ _ ?_
     clear hK K
     refine wpAnyIn_ready (rs := [7]) (by kernel_rfl) (by simp) ?_
     refine AllReadyIn.cons rfl (fun K hK => ?_) AllReadyIn.nil
     rw [if_pos (by kernel_rfl)]
     refine op_appIn (.tmp 20) (.tmp 22) rv2 (.slice (some ⟨X.heap.size, 0, none⟩) 1 1) (by kernel_rfl) (by kernel_rfl) rfl hrun ?_
     clear hrun
     have p7 := hp7.cell
     obtain ⟨d0, d1, d2, d3⟩ := box4' hc7
     have fC2 := frozen_of_row w7 C 2 _ 100 hc7
     refine hK _ _ ?_
     clear hK K
     refine wpAnyIn_take (i := 8) (v := ?vd75) rfl rfl (by kernel_rfl) (by kernel_rfl) (by kernel_rfl) (fun _ _ _ h => nomatch h.1) ⟨Or.inl ⟨by kernel_rfl, ?hd75⟩, fun _ => rfl⟩ ?rd75
     case hd75 => (intro w; go_simp; first | done | (with_reducible rfl))
     refine wpAnyIn_take (i := 9) (v := ?vd76) rfl rfl (by kernel_rfl) (by kernel_rfl) (by kernel_rfl) (fun _ _ _ h => nomatch h.1) ⟨Or.inl ⟨by kernel_rfl, ?hd76⟩, fun _ => rfl⟩ ?rd76
     case hd76 => (intro w; go_simp; first | done | (with_reducible rfl))
     refine wpAnyIn_ready (rs := [10]) (by kernel_rfl) (by simp) ?_
     refine AllReadyIn.cons rfl (fun K hK => ?_) AllReadyIn.nil
     go_simp
     refine hK _ _ ?_
     clear hK K
     refine wpAnyIn_done (by kernel_rfl) ?_ _
     exact ⟨rfl, _, _, _, _, _, _, _, _, _, _, rfl, HB3.out⟩
    refine AllReadyIn.cons rfl (fun K hK => ?_) AllReadyIn.nil
    rw [if_pos (by kernel_rfl)]
    refine op_appIn (.tmp 20) (.tmp 22) rv2 (.slice (some ⟨X.heap.size, 0, none⟩) 1 1) (by kernel_rfl) (by kernel_rfl) rfl hrun ?_
    clear hrun
    have p7 := hp7.cell
    obtain ⟨d0, d1, d2, d3⟩ := box4' hc7
    have fC2 := frozen_of_row w7 C 2 _ 100 hc7
    refine hK _ _ ?_
    clear hK K
    refine wpAnyIn_ready (rs := [0]) (by kernel_rfl) (by simp) ?_
    refine AllReadyIn.cons rfl (fun K hK => ?_) AllReadyIn.nil
    go_simp
    refine hK _ _ ?_
    clear hK K
    refine wpAnyIn_take (i := 8) (v := ?vd77) rfl rfl (by kernel_rfl) (by kernel_rfl) (by kernel_rfl) (fun _ _ _ h => nomatch h.1) ⟨Or.inl ⟨by kernel_rfl, ?hd77⟩, fun _ => rfl⟩ ?rd77
    case hd77 => (intro w; go_simp; first | done | (with_reducible rfl))
    refine wpAnyIn_take (i := 9) (v := ?vd78) rfl rfl (by kernel_rfl) (by kernel_rfl) (by kernel_rfl) (fun _ _ _ h => nomatch h.1) ⟨Or.inl ⟨by kernel_rfl, ?hd78⟩, fun _ => rfl⟩ ?rd78
    case hd78 => (intro w; go_simp; first | done | (with_reducible rfl))
    refine wpAnyIn_ready (rs := [10]) (by kernel_rfl) (by simp) ?_
    refine AllReadyIn.cons rfl (fun K hK => ?_) AllReadyIn.nil
    go_simp
    refine hK _ _ ?_
    clear hK K
    refine wpAnyIn_done (by kernel_rfl) ?_ _
    exact ⟨rfl, _, _, _, _, _, _, _, _, _, _, rfl, HB3.out⟩
   refine AllReadyIn.cons rfl (fun K hK => ?_) AllReadyIn.nil
   go_simp
   refine hK _ _ ?_
   clear hK K
   refine wpAnyIn_ready (rs := [0, 1]) (by kernel_rfl) (by simp) ?_
   refine AllReadyIn.cons rfl (fun K hK => ?_) ?_
   ·skip
    go_simp
    refine hK _ _ ?_
    clear hK K
    refine wpAnyIn_ready (rs := [1]) (by kernel_rfl) (by simp) ?_
    refine AllReadyIn.cons rfl (fun K hK => ?_) AllReadyIn.nil
    go_simp
    refine hK _ _ ?_
    clear hK K
    refine wpAnyIn_take (i := 2) (v := ?vd79) rfl rfl (by kernel_rfl) (by kernel_rfl) (by kernel_rfl) (fun _ _ _ h => nomatch h.1) ⟨Or.inl ⟨by kernel_rfl, ?hd79⟩, fun _ => rfl⟩ ?rd79
    case hd79 => (intro w; go_simp; first | done | (with_reducible rfl))
    refine wpAnyIn_take (i := 3) (v := ?vd80) rfl rfl (by kernel_rfl) (by kernel_rfl) (by kernel_rfl) (fun _ _ _ h => nomatch h.1) ⟨Or.inl ⟨by kernel_rfl, ?hd80⟩, fun _ => rfl⟩ ?rd80
    case hd80 => (intro w; go_simp; first | done | (with_reducible rfl))
    refine wpAnyIn_ready (rs := [4]) (by kernel_rfl) (by simp) ?_
    refine AllReadyIn.cons rfl (fun K hK => ?_) AllReadyIn.nil
    go_simp
    refine hK _ _ ?_
    clear hK K
    refine wpAnyIn_ready (rs := [7]) (by kernel_rfl) (by simp) ?_
    refine AllReadyIn.cons rfl (fun K hK => ?_) AllReadyIn.nil
    rw [if_pos (by kernel_rfl)]
    refine op_appIn (.tmp 20) (.tmp 22) rv2 (.slice (some ⟨X.heap.size, 0, none⟩) 1 1) (by kernel_rfl) (by kernel_rfl) rfl hrun ?_
    clear hrun
    have p7 := hp7.cell
    obtain ⟨d0, d1, d2, d3⟩ := box4' hc7
    have fC2 := frozen_of_row w7 C 2 _ 100 hc7
    refine hK _ _ ?_
    clear hK K
    refine wpAnyIn_take (i := 8) (v := ?vd81) rfl rfl (by kernel_rfl) (by kernel_rfl) (by kernel_rfl) (fun _ _ _ h => nomatch h.1) ⟨Or.inl ⟨by kernel_rfl, ?hd81⟩, fun _ => rfl⟩ ?rd81
    case hd81 => (intro w; go_simp; first | done | (with_reducible rfl))
    refine wpAnyIn_take (i := 9) (v := ?vd82) rfl rfl (by kernel_rfl) (by kernel_rfl) (by kernel_rfl) (fun _ _ _ h => nomatch h.1) ⟨Or.inl ⟨by kernel_rfl, ?hd82⟩, fun _ => rfl⟩ ?rd82
    case hd82 => (intro w; go_simp; first | done | (with_reducible rfl))
    refine wpAnyIn_ready (rs := [10]) (by kernel_rfl) (by simp) ?_
    refine AllReadyIn.cons rfl (fun K hK => ?_) AllReadyIn.nil
    go_simp
    refine hK _ _ ?_
    clear hK K
    refine wpAnyIn_done (by kernel_rfl) ?_ _
    exact ⟨rfl, _, _, _, _, _, _, _, _, _, _, rfl, HB3.out⟩
   refine AllReadyIn.cons rfl (fun K hK => ?_) AllReadyIn.nil
   go_simp
   refine hK _ _ ?_
   clear hK K
   refine wpAnyIn_take (i := 2) (v := ?vd83) rfl rfl (by kernel_rfl) (by kernel_rfl) (by kernel_rfl) (fun _ _ _ h => nomatch h.1) ⟨Or.inl ⟨by kernel_rfl, ?hd83⟩, fun _ => rfl⟩ ?rd83
   case hd83 => (intro w; go_simp; first | done | (with_reducible rfl))
   refine wpAnyIn_take (i := 3) (v := ?vd84) rfl rfl (by kernel_rfl) (by kernel_rfl) (by kernel_rfl) (fun _ _ _ h => nomatch h.1) ⟨Or.inl ⟨by kernel_rfl, ?hd84⟩, fun _ => rfl⟩ ?rd84
   case hd84 => (intro w; go_simp; first | done | (with_reducible rfl))
   refine wpAnyIn_ready (rs := [0, 4]) (by kernel_rfl) (by simp) ?_
   refine AllReadyIn.cons rfl (fun K hK => ?_) ?_
   ·skip
    go_simp
    refine hK _ _ ?_
    clear hK K
    refine wpAnyIn_ready (rs := [4]) (by kernel_rfl) (by simp) ?_
    refine AllReadyIn.cons rfl (fun K hK => ?_) AllReadyIn.nil
    go_simp
    refine hK _ _ ?_
    clear hK K
    refine wpAnyIn_ready (rs := [7]) (by kernel_rfl) (by simp) ?_
    refine AllReadyIn.cons rfl (fun K hK => ?_) AllReadyIn.nil
    rw [if_pos (by kernel_rfl)]
    refine op_appIn (.tmp 20) (.tmp 22) rv2 (.slice (some ⟨X.heap.size, 0, none⟩) 1 1) (by kernel_rfl) (by kernel_rfl) rfl hrun ?_
    clear hrun
    have p7 := hp7.cell
    obtain ⟨d0, d1, d2, d3⟩ := box4' hc7
    have fC2 := frozen_of_row w7 C 2 _ 100 hc7
    refine hK _ _ ?_
    clear hK K
    refine wpAnyIn_take (i := 8) (v := ?vd85) rfl rfl (by kernel_rfl) (by kernel_rfl) (by kernel_rfl) (fun _ _ _ h => nomatch h.1) ⟨Or.inl ⟨by kernel_rfl, ?hd85⟩, fun _ => rfl⟩ ?rd85
    case hd85 => (intro w; go_simp; first | done | (with_reducible rfl))
    refine wpAnyIn_take (i := 9) (v := ?vd86) rfl rfl (by kernel_rfl) (by kernel_rfl) (by kernel_rfl) (fun _ _ _ h => nomatch h.1) ⟨Or.inl ⟨by kernel_rfl, ?hd86⟩, fun _ => rfl⟩ ?rd86
    case hd86 => (intro w; go_simp; first | done | (with_reducible rfl))
    refine wpAnyIn_ready (rs := [10]) (by kernel_rfl) (by simp) ?_
    refine AllReadyIn.cons rfl (fun K hK => ?_) AllReadyIn.nil
    go_simp
    refine hK _ _ ?_
    clear hK K
    refine wpAnyIn_done (by kernel_rfl) ?_ _
    exact ⟨rfl, _, _, _, _, _, _, _, _, _, _, rfl, HB3.out⟩
   refine AllReadyIn.cons rfl (fun K hK => ?_) AllReadyIn.nil
   go_simp
   refine hK _ _ ?_
   clear hK K
   refine wpAnyIn_ready (rs := [0, 7]) (by kernel_rfl) (by simp) ?_
   refine AllReadyIn.cons rfl (fun K hK => ?_) ?_
   ·skip
    go_simp
    refine hK _ _ ?_
    clear hK K
    refine wpAnyIn_ready (rs := [7]) (by kernel_rfl) (by simp) ?_
    refine AllReadyIn.cons rfl (fun K hK => ?_) AllReadyIn.nil
    rw [if_pos (by kernel_rfl)]
    refine op_appIn (.tmp 20) (.tmp 22) rv2 (.slice (some ⟨X.heap.size, 0, none⟩) 1 1) (by kernel_rfl) (by kernel_rfl) rfl hrun ?_
    clear hrun
    have p7 := hp7.cell
    obtain ⟨d0, d1, d2, d3⟩ := box4' hc7
    have fC2 := frozen_of_row w7 C 2 _ 100 hc7
    refine hK _ _ ?_
    clear hK K
    refine wpAnyIn_take (i := 8) (v := ?vd87) rfl rfl (by kernel_rfl) (by kernel_rfl) (by kernel_rfl) (fun _ _ _ h => nomatch h.1) ⟨Or.inl ⟨by kernel_rfl, ?hd87⟩, fun _ => rfl⟩ ?rd87
    case hd87 => (intro w; go_simp; first | done | (with_reducible rfl))
    refine wpAnyIn_take (i := 9) (v := ?vd88) rfl rfl (by kernel_rfl) (by kernel_rfl) (by kernel_rfl) (fun _ _ _ h => nomatch h.1) ⟨Or.inl ⟨by kernel_rfl, ?hd88⟩, fun _ => rfl⟩ ?rd88
    case hd88 => (intro w; go_simp; first | done | (with_reducible rfl))
    refine wpAnyIn_ready (rs := [10]) (by kernel_rfl) (by simp) ?_
    refine AllReadyIn.cons rfl (fun K hK => ?_) AllReadyIn.nil
    go_simp
    refine hK _ _ ?_
    clear hK K
    refine wpAnyIn_done (by kernel_rfl) ?_ _
    exact ⟨rfl, _, _, _, _, _, _, _, _, _, _, rfl, HB3.out⟩
   refine AllReadyIn.cons rfl (fun K hK => ?_) AllReadyIn.nil
   rw [if_pos (by kernel_rfl)]
   refine op_appIn (.tmp 20) (.tmp 22) rv2 (.slice (some ⟨X.heap.size, 0, none⟩) 1 1) (by kernel_rfl) (by kernel_rfl) rfl hrun ?_
   clear hrun
   have p7 := hp7.cell
   obtain ⟨d0, d1, d2, d3⟩ := box4' hc7
   have fC2 := frozen_of_row w7 C 2 _ 100 hc7
   refine hK _ _ ?_
   clear hK K
   refine wpAnyIn_ready (rs := [0]) (by kernel_rfl) (by simp) ?_
   refine AllReadyIn.cons rfl (fun K hK => ?_) AllReadyIn.nil
   go_simp
   refine hK _ _ ?_
   clear hK K
   refine wpAnyIn_take (i := 8) (v := ?vd89) rfl rfl (by kernel_rfl) (by kernel_rfl) (by kernel_rfl) (fun _ _ _ h => nomatch h.1) ⟨Or.inl ⟨by kernel_rfl, ?hd89⟩, fun _ => rfl⟩ ?rd89
   case hd89 => (intro w; go_simp; first | done | (with_reducible rfl))
   refine wpAnyIn_take (i := 9) (v := ?vd90) rfl rfl (by kernel_rfl) (by kernel_rfl) (by kernel_rfl) (fun _ _ _ h => nomatch h.1) ⟨Or.inl ⟨by kernel_rfl, ?hd90⟩, fun _ => rfl⟩ ?rd90
   case hd90 => (intro w; go_simp; first | done | (with_reducible rfl))
   refine wpAnyIn_ready (rs := [10]) (by kernel_rfl) (by simp) ?_
   refine AllReadyIn.cons rfl (fun K hK => ?_) AllReadyIn.nil
   go_simp
   refine hK _ _ ?_
   clear hK K
   refine wpAnyIn_done (by kernel_rfl) ?_ _
   exact ⟨rfl, _, _, _, _, _, _, _, _, _, _, rfl, HB3.out⟩
  rintro e a' w16 ⟨rfl, u16, u17, u18, u19, u20, u21, u22, u23, u24, u25, rfl, hb16⟩
  replace HB := Lib.hid hb16
  clear hb16
  obtain ⟨rv2, hc1, _, _⟩ := HB.out.c
  obtain ⟨n1, n2, n3, n4, n5⟩ := HB.out.cp
  have p0 := HB.out.p.cell
  have s0 := HB.out.s.cell
  have sf := HB.out.s.frozen
  obtain ⟨c0, c1, c2, c3⟩ := box4' hc1
  obtain ⟨x0, x1⟩ := box2' HB.out.x
  have hlp := HB.out.p.lt
  have hls := HB.out.s.lt
  have hlC := (Array.getElem?_eq_some_iff.1 hc1).1
  have hlx := (Array.getElem?_eq_some_iff.1 HB.out.x).1
  have fC1 := frozen_of_row w16 C 1 _ 100 hc1
  have hx1 : (x.seq : Int) + 1 ≤ 18446744073709551615 := by have := x.h1; omega
  have hx2 := x.h2
  have hx3 : (sumL pre : Int) + (16 + (x.data.size : Int)) ≤ 9223372036854775807 := by omega
  have n2' : w.heap.size + 1 + 1 ≠ C := Ne.symm n2
  have n3' : Bx ≠ C := Ne.symm n3
  have HB5 := Lib.hid ((HB.out.setN hbC (.inr trivial) ((x.seq : Int) + 1)).setS hS ((sumL pre : Int) + (16 + (x.data.size : Int))))
  clear hc1
  gi_wp2
  refine ⟨HB5.out.kf, HB5.out.kp, ⟨⟨⟨HB5.out.p, by rw [sumL_snoc]; exact HB5.out.s⟩, ?_⟩, HB5.out.b⟩⟩
  obtain ⟨rv', h1, h2, _⟩ := HB5.out.c
  exact ⟨rv', by rw [lastN_snoc]; exact h1, by rw [← List.append_assoc]; exact h2⟩
 case done =>
  rintro D ys W hD rfl ⟨⟨⟨hp, hs⟩, hcr⟩, hB⟩ hK
  have s0 := hs.cell
  have hcr2 := Go.Own.putObj (CR.own base C fr nx mv rs) (.deferred none) hcr hK rfl
  have hB2 : Below base w (W.putObj D (.deferred none)) := hB.trans (belowK_b (w := Wl) (by omega) W D _ _ hD hK rfl rfl)
  have Hcr2 := Lib.hid hcr2
  have HB2 := Lib.hid hB2
  clear hcr hcr2 hB2
  gi_wp2
  refine ⟨by simp, .inl ⟨_, _, rfl, run_takeDeferred hK, ?_⟩⟩
  refine ⟨_, results_tmp rfl _ _ _, rfl, ?_, HB2.out⟩
  obtain ⟨rv', h1, h2⟩ := Hcr2.out
  exact ⟨rv', by rw [← lastN_frames]; exact h1, h2⟩
 case stop =>
  rintro D c pre W _ _ h _
  exact h.elim
end Go.Proofs.YtlgbehagflnfgaaGreatDoor

/- SEGMENT, MATHEMATICS: names in order; frames behind frames; a frame that is cut. -/
namespace Go.Proofs.YtlgbehagflnfgaaGreatDoor
open Go.RowKit
set_option maxRecDepth 100000
set_option linter.unusedVariables false
set_option linter.unusedSimpArgs false

theorem hexd_lt : ∀ x y : Fin 16, x.1 < y.1 → (hexd x.1).toNat < (hexd y.1).toNat := by decide
theorem hexL_lt (a b : Nat) : ∀ i, a % 16 ^ i < b % 16 ^ i → Op.bytesLess (hexL a i) (hexL b i) = true
 | 0, h => by simp [Nat.mod_one] at h
 | i + 1, h => by
  have e : ∀ x : Nat, x % 16 ^ (i + 1) = x % 16 ^ i + 16 ^ i * (x / 16 ^ i % 16) := fun x => by rw [Nat.pow_succ, Nat.mod_mul]
  rw [e, e] at h
  rw [hexL, hexL, bl_cons]
  have hp : 0 < 16 ^ i := Nat.pow_pos (by omega)
  have ha := Nat.mod_lt a hp
  have hb := Nat.mod_lt b hp
  obtain ⟨x, hx⟩ : ∃ x, a / 16 ^ i % 16 = x := ⟨_, rfl⟩
  obtain ⟨y, hy⟩ : ∃ y, b / 16 ^ i % 16 = y := ⟨_, rfl⟩
  rw [hx, hy] at h ⊢
  have hx16 : x < 16 := by rw [← hx]; exact Nat.mod_lt _ (by decide)
  have hy16 : y < 16 := by rw [← hy]; exact Nat.mod_lt _ (by decide)
  rcases Nat.lt_trichotomy x y with hlt | heq | hgt
  ·exact .inl (hexd_lt ⟨x, hx16⟩ ⟨y, hy16⟩ hlt)
  ·subst heq
   exact .inr ⟨rfl, hexL_lt a b i (by omega)⟩
  ·exfalso
   have : 16 ^ i * (y + 1) ≤ 16 ^ i * x := Nat.mul_le_mul_left _ hgt
   rw [Nat.mul_add] at this
   omega
theorem nameB_lt {a b : Nat} (h : a < b) (hb : b < 18446744073709551616) : lt (nameB a) (nameB b) = true := by
 unfold lt
 rw [Go.ByteArray.toList_eq, Go.ByteArray.toList_eq]
 have := hexL_lt a b 16 (by rw [Nat.mod_eq_of_lt (by omega), Nat.mod_eq_of_lt (by omega)]; exact h)
 exact this
theorem nameB_mono {a b : Nat} (ha : a < 18446744073709551616) (hb : b < 18446744073709551616) (h : lt (nameB a) (nameB b) = true) : a < b := by
 rcases Nat.lt_trichotomy a b with h1 | rfl | h1
 ·exact h1
 ·exact absurd h (lt_irrefl _)
 ·exact absurd h (lt_asym (nameB_lt h1 ha))

/-- the bytes -/
abbrev bs (s : ByteArray) : List UInt8 := s.data.toList
theorem bs_inj {a b : ByteArray} (h : bs a = bs b) : a = b := ByteArray.ext (Array.toList_inj.1 h)
theorem bs_len (s : ByteArray) : (bs s).length = s.size := by simp
theorem bs_app (s t : ByteArray) : bs (s ++ t) = bs s ++ bs t := by simp
theorem bs_ext (s : ByteArray) (i j : Nat) : bs (s.extract i j) = ((bs s).take j).drop i := by
 show (s.extract i j).data.toList = _
 rw [ByteArray.data_extract, Array.toList_extract, List.extract_eq_take_drop, List.drop_take]
theorem bs_mk (l : List UInt8) : bs ⟨l.toArray⟩ = l := by simp
theorem ext_app (s t : ByteArray) (i j : Nat) (h : j ≤ s.size) : (s ++ t).extract i j = s.extract i j := by
 apply bs_inj
 rw [bs_ext, bs_ext, bs_app, List.take_append_of_le_length (by rw [bs_len]; exact h)]
theorem ext_app_end (s t : ByteArray) (i : Nat) (h : i ≤ s.size) : (s ++ t).extract i (s ++ t).size = s.extract i s.size ++ t := by
 apply bs_inj
 rw [bs_ext, bs_app, bs_app, bs_ext, List.take_of_length_le (by simp), List.take_of_length_le (by simp), List.drop_append_of_le_length (by rw [bs_len]; exact h)]
theorem size_app (s t : ByteArray) : (s ++ t).size = s.size + t.size := by simp
theorem app_nil_left {s : ByteArray} (h : s.size = 0) (t : ByteArray) : s ++ t = t := by
 have e : bs s = [] := List.eq_nil_of_length_eq_zero (by rw [bs_len]; exact h)
 apply bs_inj
 rw [bs_app, e, List.nil_append]

theorem sizeB_app {s : ByteArray} (t : ByteArray) (h : 4 ≤ s.size) : sizeB (s ++ t) = sizeB s := by
 unfold sizeB; rw [ext_app s t 0 4 h]
theorem firstM_iff {s d : ByteArray} {n : Int} : firstM s n = some d ↔ (16 ≤ s.size ∧ n < 4611686018427387904 ∧ sizeB s ≤ 65536 ∧ sizeB s + 16 ≤ s.size ∧ (⟨(headL n.toNat (s.extract 16 (16 + sizeB s))).toArray⟩ : ByteArray) = s.extract 0 16 ∧ d = s.extract 16 (16 + sizeB s)) := by
 constructor
 ·intro h
  unfold firstM at h
  by_cases h1 : s.size < 16
  ·rw [if_pos h1] at h; cases h
  rw [if_neg h1] at h
  by_cases h2 : 4611686018427387904 ≤ n
  ·rw [if_pos h2] at h; cases h
  rw [if_neg h2] at h
  by_cases h3 : 65536 < sizeB s
  ·rw [if_pos h3] at h; cases h
  rw [if_neg h3] at h
  by_cases h4 : s.size - 16 < sizeB s
  ·rw [if_pos h4] at h; cases h
  rw [if_neg h4] at h
  have k1 : 16 ≤ s.size := Nat.le_of_not_lt h1
  have k2 : n < 4611686018427387904 := Int.lt_of_not_ge h2
  have k3 : sizeB s ≤ 65536 := Nat.le_of_not_lt h3
  have k4 : sizeB s + 16 ≤ s.size := by clear h h2 h3 k2 k3; omega
  by_cases h5 : (⟨(headL n.toNat (s.extract 16 (16 + sizeB s))).toArray⟩ : ByteArray) = s.extract 0 16
  ·rw [if_pos h5] at h
   exact ⟨k1, k2, k3, k4, h5, (Option.some.inj h).symm⟩
  ·rw [if_neg h5] at h; cases h
 ·rintro ⟨k1, k2, k3, k4, k5, k6⟩
  unfold firstM
  rw [if_neg (Nat.not_lt.2 k1), if_neg (Int.not_le.2 k2), if_neg (Nat.not_lt.2 k3), if_neg (by clear k5 k6 k2 k3; omega), if_pos k5, k6]
theorem firstM_app {s d : ByteArray} {n : Int} (h : firstM s n = some d) (t : ByteArray) : firstM (s ++ t) n = some d := by
 obtain ⟨h1, h2, h3, h4, h5, h6⟩ := firstM_iff.1 h
 have e := sizeB_app t (show 4 ≤ s.size by omega)
 refine firstM_iff.2 ⟨by rw [size_app]; omega, h2, by rw [e]; exact h3, by rw [e, size_app]; omega, ?_, ?_⟩
 ·rw [e, ext_app s t 16 _ (by omega), ext_app s t 0 16 (by omega)]; exact h5
 ·rw [e, ext_app s t 16 _ (by omega)]; exact h6
theorem framesL_app : ∀ (k : Nat) (s t : ByteArray) (n : Nat), s.size ≤ k → sumL (framesL s n) = s.size → framesL (s ++ t) n = framesL s n ++ framesL t (n + (framesL s n).length)
 | k, s, t, n, hk, h => by
  cases hf : firstM s (n : Int) with
  | none =>
   rw [framesL_none hf] at h ⊢
   rw [app_nil_left (by simpa [sumL] using h.symm)]
   simp
  | some d =>
   have hb := (firstM_bd hf).2.2
   cases k with
   | zero => omega
   | succ k =>
    rw [framesL_some hf] at h ⊢
    rw [framesL_some (firstM_app hf t), ext_app_end s t _ (by omega)]
    have hs : (s.extract (16 + d.size) s.size).size = s.size - (16 + d.size) := by simp
    rw [framesL_app k _ t (n + 1) (by rw [hs]; omega) (by rw [hs]; simp only [sumL, List.map_cons, List.sum_cons] at h ⊢; omega)]
    rw [List.cons_append, List.length_cons, show n + ((framesL (s.extract (16 + d.size) s.size) (n + 1)).length + 1) = n + 1 + (framesL (s.extract (16 + d.size) s.size) (n + 1)).length by omega]
theorem framesL_join {s : ByteArray} {n : Nat} (h : sumL (framesL s n) = s.size) (t : ByteArray) : framesL (s ++ t) n = framesL s n ++ framesL t (n + (framesL s n).length) := framesL_app s.size s t n (Nat.le_refl _) h

/-- a frame's bytes -/
def frameB (n : Nat) (d : ByteArray) : ByteArray := ⟨(frameL n d).toArray⟩
theorem frameB_size (n : Nat) (d : ByteArray) : (frameB n d).size = 16 + d.size := by
 show (frameL n d).toArray.size = _
 rw [List.size_toArray, frameL_len]
theorem bs_frame (n : Nat) (d : ByteArray) : bs (frameB n d) = headL n d ++ bs d := by
 show (frameL n d).toArray.toList = _
 rw [frameL]
theorem frame_head (n : Nat) (d : ByteArray) : bs ((frameB n d).extract 0 16) = headL n d := by
 rw [bs_ext, bs_frame, List.drop_zero, List.take_append_of_le_length (by rw [headL_len]; exact Nat.le_refl _), List.take_of_length_le (by rw [headL_len]; exact Nat.le_refl _)]
theorem frame_data (n : Nat) (d : ByteArray) : (frameB n d).extract 16 (16 + d.size) = d := by
 apply bs_inj
 rw [bs_ext, bs_frame, List.take_of_length_le (by rw [List.length_append, headL_len, bs_len]; exact Nat.le_refl _)]
 exact List.drop_left' (headL_len n d)
/-- a beginning of a frame -/
theorem cut_size {n k : Nat} {d : ByteArray} (hk : 4 ≤ k) (hd : d.size ≤ 65536) : sizeB ((frameB n d).extract 0 k) = d.size := by
 unfold sizeB
 have : bs (((frameB n d).extract 0 k).extract 0 4) = (headL n d).take 4 := by
  rw [bs_ext, bs_ext, bs_frame, List.drop_zero, List.drop_zero, List.take_take, Nat.min_eq_left hk, List.take_append_of_le_length (by rw [headL_len]; omega)]
 show M.unle (bs _) = _
 rw [this, headL_size n d (by omega)]
theorem frame_whole (n : Nat) (d : ByteArray) : (frameB n d).extract 0 (16 + d.size) = frameB n d := by
 apply bs_inj
 rw [bs_ext, List.take_of_length_le (by rw [bs_len, frameB_size]; exact Nat.le_refl _), List.drop_zero]
theorem first_frame {n : Nat} {d : ByteArray} (hn : n < 4611686018427387904) (hd : d.size ≤ 65536) : firstM (frameB n d) (n : Int) = some d := by
 have hs : sizeB (frameB n d) = d.size := by
  have := cut_size (n := n) (k := 16 + d.size) (d := d) (by omega) hd
  rwa [frame_whole] at this
 have hz := frameB_size n d
 refine firstM_iff.2 ⟨by omega, by omega, by omega, by omega, ?_, ?_⟩
 ·rw [hs, frame_data, Int.toNat_natCast]
  apply bs_inj
  rw [frame_head, bs_mk]
 ·rw [hs, frame_data]
theorem first_cut {n k : Nat} {d : ByteArray} (hk : k < 16 + d.size) (hd : d.size ≤ 65536) : firstM ((frameB n d).extract 0 k) (n : Int) = none := by
 have hz : ((frameB n d).extract 0 k).size = k := by rw [ByteArray.size_extract, frameB_size]; omega
 unfold firstM
 by_cases h16 : k < 16
 ·rw [if_pos (by rw [hz]; exact h16)]
 rw [if_neg (by rw [hz]; exact h16)]
 split
 ·rfl
 rw [cut_size (by omega) hd, if_neg (by omega), if_pos (by rw [hz]; omega)]
theorem framesL_nil {s : ByteArray} (h : s.size = 0) (n : Nat) : framesL s n = [] := framesL_none (by unfold firstM; rw [if_pos (by omega)])
theorem frames_frame {n : Nat} {d : ByteArray} (hn : n < 4611686018427387904) (hd : d.size ≤ 65536) : framesL (frameB n d) n = [⟨n, d, hn, hd⟩] := by
 rw [framesL_some (first_frame hn hd)]
 congr 1
 exact framesL_nil (by rw [ByteArray.size_extract, frameB_size]; omega) _
theorem frames_cut {n k : Nat} {d : ByteArray} (hk : k < 16 + d.size) (hd : d.size ≤ 65536) : framesL ((frameB n d).extract 0 k) n = [] := framesL_none (first_cut hk hd)
theorem sumL_app (a b : List Rec) : sumL (a ++ b) = sumL a + sumL b := by simp [sumL]
theorem sumF_le : ∀ (k : Nat) (s : ByteArray) (n : Nat), s.size ≤ k → sumL (framesL s n) ≤ s.size
 | k, s, n, hk => by
  cases hf : firstM s (n : Int) with
  | none => rw [framesL_none hf]; simp [sumL]
  | some d =>
   have hb := (firstM_bd hf).2.2
   cases k with
   | zero => omega
   | succ k =>
    rw [framesL_some hf]
    have := sumF_le k (s.extract (16 + d.size) s.size) (n + 1) (by simp; omega)
    simp only [ByteArray.size_extract] at this
    simp only [sumL, List.map_cons, List.sum_cons] at this ⊢
    omega
theorem sum_le (s : ByteArray) (n : Nat) : sumL (framesL s n) ≤ s.size := sumF_le s.size s n (Nat.le_refl _)
/-- cut behind its frames a text has the same frames, and nothing else -/
theorem framesF_trim : ∀ (k : Nat) (s : ByteArray) (n : Nat), s.size ≤ k → framesL (s.extract 0 (sumL (framesL s n))) n = framesL s n
 | k, s, n, hk => by
  cases hf : firstM s (n : Int) with
  | none =>
   rw [framesL_none hf]
   exact framesL_nil (by simp [sumL]) _
  | some d =>
   have hb := (firstM_bd hf).2.2
   cases k with
   | zero => omega
   | succ k =>
    have ih := framesF_trim k (s.extract (16 + d.size) s.size) (n + 1) (by simp; omega)
    rw [framesL_some hf]
    obtain ⟨m, hm⟩ : ∃ m, sumL (framesL (s.extract (16 + d.size) s.size) (n + 1)) = m := ⟨_, rfl⟩
    have hmle : m ≤ s.size - (16 + d.size) := by
     have := sum_le (s.extract (16 + d.size) s.size) (n + 1)
     rw [hm, ByteArray.size_extract] at this
     omega
    rw [hm] at ih
    have hsum : sumL (⟨n, d, (firstM_bd hf).1, (firstM_bd hf).2.1⟩ :: framesL (s.extract (16 + d.size) s.size) (n + 1)) = 16 + d.size + m := by
     rw [← hm]; simp [sumL]
    rw [hsum]
    have hz : (s.extract 0 (16 + d.size + m)).size = 16 + d.size + m := by rw [ByteArray.size_extract]; omega
    have hf2 : firstM (s.extract 0 (16 + d.size + m)) (n : Int) = some d := by
     have hext : ∀ i j, j ≤ 16 + d.size → (s.extract 0 (16 + d.size + m)).extract i j = s.extract i j := fun i j hj => by
      apply bs_inj
      rw [bs_ext, bs_ext, bs_ext, List.drop_zero, List.take_take, Nat.min_eq_left (by omega)]
     have hsz : sizeB (s.extract 0 (16 + d.size + m)) = sizeB s := by
      unfold sizeB
      rw [hext 0 4 (by omega)]
     obtain ⟨g1, g2, g3, g4, g5, g6⟩ := firstM_iff.1 hf
     have hd : sizeB s = d.size := by
      rw [g6, ByteArray.size_extract]
      omega
     refine firstM_iff.2 ⟨by omega, g2, by omega, by omega, ?_, ?_⟩
     ·rw [hsz, hd, hext _ _ (Nat.le_refl _), hext 0 16 (by omega), ← hd]; exact g5
     ·rw [hsz, hd, hext _ _ (Nat.le_refl _), ← hd]; exact g6
    rw [framesL_some hf2]
    have e : (s.extract 0 (16 + d.size + m)).extract (16 + d.size) (s.extract 0 (16 + d.size + m)).size = (s.extract (16 + d.size) s.size).extract 0 m := by
     apply bs_inj
     rw [bs_ext, bs_ext, bs_ext, bs_ext, hz, List.drop_zero, List.drop_zero, List.take_take, Nat.min_self]
     have e0 : (bs s).take s.size = bs s := List.take_of_length_le (by rw [bs_len]; exact Nat.le_refl _)
     rw [e0, List.drop_take]
     rw [show 16 + d.size + m - (16 + d.size) = m by omega]
    rw [e, ih]
theorem frames_trim (s : ByteArray) (n : Nat) : framesL (s.extract 0 (sumL (framesL s n))) n = framesL s n := framesF_trim s.size s n (Nat.le_refl _)
theorem frames_seq (s : ByteArray) (n : Nat) (i : Nat) (r : Rec) (h : (framesL s n)[i]? = some r) : r.seq = n + i := framesF_seq _ s n i r h
end Go.Proofs.YtlgbehagflnfgaaGreatDoor

/- PLAIN MATHEMATICS of disks: what is right stays right; a change of one file changes no other one; crashes. No program is imported. -/
namespace Go.Proofs.YtlgbehagflnfgaaGreatDoor
open Go.RowKit
set_option linter.unusedVariables false

theorem right_iff {fs : List F} : Right fs ↔ fs.length ≤ 64 ∧ (∀ f ∈ fs, okF f) ∧ (fs.map F.name).Pairwise (fun a b => lt a b = true) := by
 constructor
 ·intro h
  refine ⟨h.1, h.ok, ?_⟩
  rw [List.pairwise_iff_getElem]
  intro i j hi hj hij
  simp only [List.length_map] at hi hj
  simp only [List.getElem_map]
  exact h.rise j i _ _ hij (List.getElem?_eq_getElem hi) (List.getElem?_eq_getElem hj)
 ·rintro ⟨h1, h2, h3⟩
  refine ⟨h1, fun i hi f hf => ⟨h2 f (List.mem_of_getElem? hf), fun p h0 hp => ?_⟩⟩
  rw [List.pairwise_iff_getElem] at h3
  have hi' : i - 1 < fs.length := by omega
  have := h3 (i - 1) i (by simpa using hi') (by simpa using hi) (by omega)
  simp only [List.getElem_map] at this
  rw [List.getElem?_eq_getElem hi] at hf
  rw [List.getElem?_eq_getElem hi'] at hp
  injection hf with hf; injection hp with hp
  rwa [hf, hp] at this

theorem found_iff {fs : List F} (hR : Right fs) {b : ByteArray} {f : F} : found fs b = some f ↔ f ∈ fs ∧ f.name = b := by
 constructor
 ·intro h; exact ⟨List.mem_of_getElem? (found_some h).1, (found_some h).2⟩
 ·rintro ⟨hm, hn⟩
  obtain ⟨i, hi⟩ := List.getElem?_of_mem hm
  have hil := (List.getElem?_eq_some_iff.1 hi).1
  have hp : pos fs b = i := by
   refine pos_unique i (Nat.le_of_lt hil) (fun j g hj hg => ?_) (fun g hg => ?_)
   ·rw [← hn]; exact hR.rise i j g f hj hg hi
   ·rw [hi] at hg; injection hg with hg; subst hg; rw [hn]; exact lt_irrefl _
  unfold found
  rw [hp, hi]
  simp [hn]
theorem right_set {fs : List F} (hR : Right fs) {i : Nat} {f g : F} (hf : fs[i]? = some f) (hn : g.name = f.name) (hg : okF g) : Right (fs.set i g) := by
 rw [right_iff] at hR ⊢
 obtain ⟨h1, h2, h3⟩ := hR
 refine ⟨by rw [List.length_set]; exact h1, fun x hx => ?_, ?_⟩
 ·rcases List.mem_or_eq_of_mem_set hx with h | h
  ·exact h2 x h
  ·subst h; exact hg
 ·have : (fs.set i g).map F.name = fs.map F.name := by
   rw [List.map_set]
   apply List.ext_getElem?
   intro j
   by_cases e : i = j
   ·subst e
    have hl := (List.getElem?_eq_some_iff.1 hf).1
    rw [List.getElem?_set_self (by simpa using hl), List.getElem?_map, hf, hn]; rfl
   ·rw [List.getElem?_set_ne e]
  rw [this]; exact h3
theorem right_ins {fs : List F} (hR : Right fs) {n : ByteArray} {g : F} (hn : g.name = n) (hg : okF g) (hf : found fs n = none) (hl : fs.length ≠ 64) : Right (fs.take (pos fs n) ++ g :: fs.drop (pos fs n)) := by
 have hR' := hR
 have hpl := pos_le fs n
 rw [right_iff] at hR ⊢
 obtain ⟨h1, h2, h3⟩ := hR
 refine ⟨?_, fun x hx => ?_, ?_⟩
 ·simp only [List.length_append, List.length_take, List.length_cons, List.length_drop]; omega
 ·rcases List.mem_append.1 hx with h | h
  ·exact h2 x (List.mem_of_mem_take h)
  ·rcases List.mem_cons.1 h with h | h
   ·subst h; exact hg
   ·exact h2 x (List.mem_of_mem_drop h)
 ·rw [List.map_append, List.map_cons, List.pairwise_append, List.pairwise_cons]
  have ht : ∀ a ∈ (fs.take (pos fs n)).map F.name, lt a n = true := by
   intro a ha
   obtain ⟨x, hx, rfl⟩ := List.mem_map.1 ha
   obtain ⟨i, hi⟩ := List.getElem?_of_mem hx
   rw [List.getElem?_take] at hi
   by_cases c : i < pos fs n
   ·rw [if_pos c] at hi; exact pos_ahead i x c hi
   ·rw [if_neg c] at hi; cases hi
  have hd : ∀ a ∈ (fs.drop (pos fs n)).map F.name, lt n a = true := by
   intro a ha
   obtain ⟨x, hx, rfl⟩ := List.mem_map.1 ha
   obtain ⟨i, hi⟩ := List.getElem?_of_mem hx
   rw [List.getElem?_drop] at hi
   refine lt_tri (pos_behind hR' _ x (by omega) hi) (fun e => ?_)
   have := (found_iff hR').2 ⟨List.mem_of_getElem? hi, e⟩
   rw [hf] at this; cases this
  refine ⟨?_, ⟨?_, ?_⟩, ?_⟩
  ·exact List.Pairwise.sublist ((List.take_sublist _ _).map _) h3
  ·intro a ha; rw [hn]; exact hd a ha
  ·exact List.Pairwise.sublist ((List.drop_sublist _ _).map _) h3
  ·intro a ha b hb
   rcases List.mem_cons.1 hb with rfl | hb
   ·rw [hn]; exact ht a ha
   ·exact lt_trans (ht a ha) (hd b hb)
theorem rem_sub (fs : List F) (i : Nat) : (fs.take i ++ fs.drop (i + 1)).Sublist fs := by
 conv => rhs; rw [← List.take_append_drop i fs]
 exact List.Sublist.append (List.Sublist.refl _) (by rw [show fs.drop (i + 1) = (fs.drop i).drop 1 by rw [List.drop_drop]]; exact List.drop_sublist _ _)
theorem right_rem {fs : List F} (hR : Right fs) (i : Nat) : Right (fs.take i ++ fs.drop (i + 1)) := by
 rw [right_iff] at hR ⊢
 obtain ⟨h1, h2, h3⟩ := hR
 exact ⟨Nat.le_trans (rem_sub fs i).length_le h1, fun x hx => h2 x ((rem_sub fs i).subset hx), List.Pairwise.sublist ((rem_sub fs i).map _) h3⟩

/-- what a change that is not refused leaves is right -/
theorem right_eff {fs : List F} (hR : Right fs) {s : S} (hk : 1 ≤ s.kind ∧ s.kind ≤ 5) (h0 : ref fs s = 0) : Right (eff fs s) := by
 unfold eff
 unfold ref at h0
 by_cases k1 : s.kind = 1
 ·rw [if_pos k1] at h0 ⊢
  by_cases c : okN s.name
  ·rw [if_pos c] at h0
   cases hf : found fs s.name with
   | some f => rw [hf] at h0; simp at h0
   | none =>
    rw [hf] at h0
    simp only [Option.isSome_none, Bool.false_eq_true, if_false] at h0
    by_cases c64 : fs.length = 64
    ·rw [if_pos c64] at h0; cases h0
    ·exact right_ins hR rfl ⟨c, by simp [ByteArray.size], by simp, by simp [ByteArray.size]⟩ hf c64
  ·rw [if_neg c] at h0; cases h0
 ·rw [if_neg k1] at h0 ⊢
  cases hf : found fs s.name with
  | none => rw [hf] at h0; cases h0
  | some f =>
   rw [hf] at h0
   have hp := (found_some hf).1
   have hok := hR.ok f (found_mem hf)
   obtain ⟨o1, o2, o3, o4⟩ := hok
   simp only at h0 ⊢
   by_cases k2 : s.kind = 2
   ·rw [if_pos k2] at h0 ⊢
    by_cases c : 262144 - f.data.size < s.data.size
    ·rw [if_pos c] at h0; cases h0
    ·refine right_set hR hp rfl ⟨o1, ?_, o3, ?_⟩
     ·simp only [ByteArray.size_append]; omega
     ·simp only [ByteArray.size_append]; omega
   ·rw [if_neg k2] at h0 ⊢
    by_cases k3 : s.kind = 3
    ·rw [if_pos k3]
     exact right_set hR hp rfl ⟨o1, o2, by simp only; omega, by simp only; omega⟩
    ·rw [if_neg k3]
     by_cases k4 : s.kind = 4
     ·rw [if_pos k4] at h0 ⊢
      by_cases c : s.size < 0 ∨ (f.data.size : Int) < s.size
      ·rw [if_pos c] at h0; cases h0
      ·refine right_set hR hp rfl ⟨o1, ?_, by simp only; omega, ?_⟩
       ·simp only [ByteArray.size_extract]; omega
       ·simp only [ByteArray.size_extract]; omega
     ·rw [if_neg k4]
      exact right_rem hR _
theorem right_empty : Right [] := ⟨by simp, fun i h => by simp at h⟩
theorem right_half {fs : List F} (hR : Right fs) {s : S} (hk : 1 ≤ s.kind ∧ s.kind ≤ 5) (h0 : ref fs s = 0) : Right (half fs s) := by
 unfold half
 by_cases h : s.kind = 2
 ·rw [if_pos h]; exact right_eff hR hk h0
 ·rw [if_neg h]; exact hR
/-- a number of changes that are still to come -/
def Num (n : Int) : Prop := -9223372036854775808 ≤ n ∧ n ≤ 9223372036854775807
theorem num_dec {n : Int} (h : Num n) : Num (dec n) := by
 unfold Num dec at *
 by_cases c : 0 < n
 ·rw [if_pos c]; omega
 ·rw [if_neg c]; exact h
/-- whatever a step does, the disk that is answered is right -/
theorem doo_all (d : D) (s : S) (hu : Num d.fuse) (hf : Num d.fault) : Right (doo d s).1.files ∧ Num (doo d s).1.fuse ∧ Num (doo d s).1.fault := by
 have z1 : Num (-1) := ⟨by omega, by omega⟩
 have z0 : Num 0 := ⟨by omega, by omega⟩
 unfold doo
 by_cases hR : Right d.files
 ·rw [if_pos hR]
  by_cases hk : 1 ≤ s.kind ∧ s.kind ≤ 5
  ·rw [if_pos hk]
   unfold run
   by_cases c1 : d.down = true
   ·rw [if_pos c1]; exact ⟨hR, hu, hf⟩
   ·rw [if_neg c1]
    by_cases c2 : ref d.files s ≠ 0
    ·rw [if_pos c2]; exact ⟨hR, hu, hf⟩
    ·rw [if_neg c2]
     have h0 : ref d.files s = 0 := by simpa using c2
     by_cases c3 : d.fault = 0
     ·rw [if_pos c3]; exact ⟨hR, hu, z1⟩
     ·rw [if_neg c3]
      by_cases c4 : d.fuse = 0
      ·rw [if_pos c4]; exact ⟨right_half hR hk h0, z0, num_dec hf⟩
      ·rw [if_neg c4]; exact ⟨right_eff hR hk h0, num_dec hu, num_dec hf⟩
  ·rw [if_neg hk]; exact ⟨hR, hu, hf⟩
 ·rw [if_neg hR]; exact ⟨right_empty, z0, z0⟩
end Go.Proofs.YtlgbehagflnfgaaGreatDoor

/- PLAIN MATHEMATICS of crashes. -/
namespace Go.Proofs.YtlgbehagflnfgaaGreatDoor
open Go.RowKit
set_option linter.unusedVariables false

theorem crash1_ok {f : F} (h : okF f) (kp : Option Int) : okF (crash1 kp f) ∧ (crash1 kp f).syn = ((crash1 kp f).data.size : Int) := by
 obtain ⟨b1, b2⟩ := keptS_bd h kp
 obtain ⟨o1, o2, o3, o4⟩ := h
 unfold crash1
 simp only [okF, ByteArray.size_extract]
 refine ⟨⟨o1, ?_, ?_, ?_⟩, ?_⟩ <;> omega
theorem crashL_names (ks : List Int) (fs : List F) : (crashL ks fs).map F.name = fs.map F.name := by
 apply List.ext_getElem?
 intro i
 rw [List.getElem?_map, List.getElem?_map]
 cases hf : fs[i]? with
 | some f => rw [crashL_at ks fs i f hf]; rfl
 | none =>
  have : (crashL ks fs)[i]? = none := by
   rw [List.getElem?_eq_none_iff] at hf ⊢
   rw [crashL_len]; exact hf
  rw [this]
theorem crashL_mem {ks : List Int} {fs : List F} {g : F} (h : g ∈ crashL ks fs) : ∃ f kp, f ∈ fs ∧ g = crash1 kp f := by
 obtain ⟨i, hi⟩ := List.getElem?_of_mem h
 have hl := (List.getElem?_eq_some_iff.1 hi).1
 rw [crashL_len] at hl
 have := crashL_at ks fs i _ (List.getElem?_eq_getElem hl)
 rw [hi] at this
 injection this with this
 exact ⟨_, _, List.getElem_mem hl, this⟩
theorem right_crash {fs : List F} (hR : Right fs) (ks : List Int) : Right (crashL ks fs) := by
 rw [right_iff] at hR ⊢
 obtain ⟨h1, h2, h3⟩ := hR
 refine ⟨by rw [crashL_len]; exact h1, fun g hg => ?_, by rw [crashL_names]; exact h3⟩
 obtain ⟨f, kp, hf, rfl⟩ := crashL_mem hg
 exact (crash1_ok (h2 f hf) kp).1
end Go.Proofs.YtlgbehagflnfgaaGreatDoor

/- THE WALKS OVER whole, lives. -/
namespace Go.Proofs.YtlgbehagflnfgaaGreatDoor
open Go.RowKit
set_option linter.unusedVariables false
set_option linter.unusedSimpArgs false
attribute [local go_sem] run_store_func run_store_nilf

theorem doo_right {d : D} {s : S} (h : Right d.files) (hk : 1 ≤ s.kind ∧ s.kind ≤ 5) : doo d s = run d s := by unfold doo; rw [if_pos h, if_pos hk]
theorem right_nil : Right [] := ⟨by simp, fun i h => by simp at h⟩
theorem crv_right {d : D} {ks : List Int} (h : Right d.files) : crv d ks = (⟨crashL ks d.files, false, -1, -1⟩, 0) := by unfold crv; rw [if_pos h]
theorem DIn.one {w : World} {ad : Option Addr} {n cap : Nat} {fs : List F} (h : Inp w w.heap.size ad n cap fs) (hf : ∀ f ∈ fs, Fit f) : DIn w ad n cap (-1) (-1) fs := ⟨h, hf, by omega, by omega, by omega, by omega⟩
/-- block q holds the disk of a local variable; the list does not lie there -/
structure Var (w : World) (q : Nat) (ad : Option Addr) (n cap : Nat) (down : Bool) (fuse fault : Int) (fs : List F) : Prop where
 d : Dk w q 24 (.slice ad n cap) down fuse fault
 i : Inp w w.heap.size ad n cap fs
section
variable {w w' : World} {q : Nat} {ad : Option Addr} {n cap : Nat} {down : Bool} {fuse fault : Int} {fs : List F}
theorem Var.under (h : Var w q ad n cap down fuse fault fs) (hb : Below w.heap.size w w') : Var w' q ad n cap down fuse fault fs := ⟨h.d.keep hb h.d.lt, h.i.under hb⟩
/-- a new variable -/
theorem Var.new (h : Inp w w.heap.size ad n cap fs) : Var (w.alloc (.cells (dcells (.slice ad n cap) down fuse fault) 24)) w.heap.size ad n cap down fuse fault fs := ⟨blk_new w _, h.under ((Below.refl _ w).alloc (Nat.le_refl _) _)⟩
/-- the variable is set anew -/
theorem Var.put {ad' : Option Addr} {n' cap' : Nat} {v0 : Value} {d0 : Bool} {u0 t0 : Int} (hd : Dk w q 24 v0 d0 u0 t0) (h : Inp w w.heap.size ad' n' cap' fs) (hf : (Value.slice ad' n' cap').ownBlock ≠ some q) :
  Var ((((w.setCell ⟨q, 0, none⟩ (.slice ad' n' cap')).setCell ⟨q, 1, none⟩ (.bool down)).setCell ⟨q, 2, none⟩ (.int .i64 fuse)).setCell ⟨q, 3, none⟩ (.int .i64 fault)) q ad' n' cap' down fuse fault fs :=
 ⟨(((hd.set0 _).set1 _).set2 _).set3 _, (Inp.set (Inp.set (Inp.set (Inp.set h hf) hf) hf) hf).mono (by simp [World.setCell])⟩
end
end Go.Proofs.YtlgbehagflnfgaaGreatDoor

/- PLAIN MATHEMATICS of what is read behind a change. -/
namespace Go.Proofs.YtlgbehagflnfgaaGreatDoor
open Go.RowKit
set_option linter.unusedVariables false

section
variable {fs : List F} {b d : ByteArray} {z : Int} {f : F}
end
end Go.Proofs.YtlgbehagflnfgaaGreatDoor
