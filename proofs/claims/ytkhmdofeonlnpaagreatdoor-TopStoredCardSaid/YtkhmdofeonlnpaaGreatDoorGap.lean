/- SEGMENT: THE WALK OVER lives. -/
import Derived.Test.YtkhmdofeonlnpaaGreatDoorGao
import Derived.Deep.Cut
namespace Go.Proofs.YtkhmdofeonlnpaaGreatDoor
open Go.RowKit
set_option maxRecDepth 100000
set_option linter.unusedVariables false
set_option linter.unusedSimpArgs false
/-- a log in a variable -/
structure LVar (w : World) (q : Nat) (ad : Option Addr) (n cap : Nat) (l : L) : Prop where
  b : w.heap[q]? = some (.cells (l.cells (.slice ad n cap)) 27 (0, 0))
  i : LIn w ad n cap l
theorem LVar.under {w w' : World} {q : Nat} {ad : Option Addr} {n cap : Nat} {l : L} (h : LVar w q ad n cap l) (hb : Below w.heap.size w w') : LVar w' q ad n cap l :=
  ⟨(hb.block _ (Array.getElem?_eq_some_iff.1 h.b).1).trans h.b, h.i.under hb⟩
theorem LVar.lt {w : World} {q : Nat} {ad : Option Addr} {n cap : Nat} {l : L} (h : LVar w q ad n cap l) : q < w.heap.size := (Array.getElem?_eq_some_iff.1 h.b).1
theorem blk_put8 {w : World} {g : Nat} {x0 x1 x2 x3 x4 x5 x6 x7 : Value} {t : TypeId} (h : w.heap[g]? = some (.cells #[x0, x1, x2, x3, x4, x5, x6, x7] t (0, 0))) (v0 v1 v2 v3 v4 v5 v6 v7 : Value) :
    ((((((((w.setCell ⟨g, 0, none⟩ v0).setCell ⟨g, 1, none⟩ v1).setCell ⟨g, 2, none⟩ v2).setCell ⟨g, 3, none⟩ v3).setCell ⟨g, 4, none⟩ v4).setCell ⟨g, 5, none⟩ v5).setCell ⟨g, 6, none⟩ v6).setCell ⟨g, 7, none⟩ v7).heap[g]? = some (.cells #[v0, v1, v2, v3, v4, v5, v6, v7] t (0, 0)) := by
  have h0 : (w.setCell ⟨g, 0, none⟩ v0).heap[g]? = some (.cells #[v0, x1, x2, x3, x4, x5, x6, x7] t (0, 0)) := heap_setCell_same _ g 0 _ t _ h
  have h1 : ((w.setCell ⟨g, 0, none⟩ v0).setCell ⟨g, 1, none⟩ v1).heap[g]? = some (.cells #[v0, v1, x2, x3, x4, x5, x6, x7] t (0, 0)) := heap_setCell_same _ g 1 _ t _ h0
  have h2 : (((w.setCell ⟨g, 0, none⟩ v0).setCell ⟨g, 1, none⟩ v1).setCell ⟨g, 2, none⟩ v2).heap[g]? = some (.cells #[v0, v1, v2, x3, x4, x5, x6, x7] t (0, 0)) := heap_setCell_same _ g 2 _ t _ h1
  have h3 : ((((w.setCell ⟨g, 0, none⟩ v0).setCell ⟨g, 1, none⟩ v1).setCell ⟨g, 2, none⟩ v2).setCell ⟨g, 3, none⟩ v3).heap[g]? = some (.cells #[v0, v1, v2, v3, x4, x5, x6, x7] t (0, 0)) := heap_setCell_same _ g 3 _ t _ h2
  have h4 : (((((w.setCell ⟨g, 0, none⟩ v0).setCell ⟨g, 1, none⟩ v1).setCell ⟨g, 2, none⟩ v2).setCell ⟨g, 3, none⟩ v3).setCell ⟨g, 4, none⟩ v4).heap[g]? = some (.cells #[v0, v1, v2, v3, v4, x5, x6, x7] t (0, 0)) := heap_setCell_same _ g 4 _ t _ h3
  have h5 : ((((((w.setCell ⟨g, 0, none⟩ v0).setCell ⟨g, 1, none⟩ v1).setCell ⟨g, 2, none⟩ v2).setCell ⟨g, 3, none⟩ v3).setCell ⟨g, 4, none⟩ v4).setCell ⟨g, 5, none⟩ v5).heap[g]? = some (.cells #[v0, v1, v2, v3, v4, v5, x6, x7] t (0, 0)) := heap_setCell_same _ g 5 _ t _ h4
  have h6 : (((((((w.setCell ⟨g, 0, none⟩ v0).setCell ⟨g, 1, none⟩ v1).setCell ⟨g, 2, none⟩ v2).setCell ⟨g, 3, none⟩ v3).setCell ⟨g, 4, none⟩ v4).setCell ⟨g, 5, none⟩ v5).setCell ⟨g, 6, none⟩ v6).heap[g]? = some (.cells #[v0, v1, v2, v3, v4, v5, v6, x7] t (0, 0)) := heap_setCell_same _ g 6 _ t _ h5
  exact heap_setCell_same _ g 7 _ t _ h6
/-- a log is stored in a variable -/
abbrev putL (w : World) (g : Nat) (l : L) (v : Value) : World := (((((((w.setCell ⟨g, 0, none⟩ v).setCell ⟨g, 1, none⟩ (.bool l.d.down)).setCell ⟨g, 2, none⟩ (.int .i64 l.d.fuse)).setCell ⟨g, 3, none⟩ (.int .i64 l.d.fault)).setCell ⟨g, 4, none⟩ (.int .i64 l.size)).setCell ⟨g, 5, none⟩ (.int .u64 l.fr)).setCell ⟨g, 6, none⟩ (.int .u64 l.nx)).setCell ⟨g, 7, none⟩ (.bool l.broken)
theorem Inp.own_lt {w : World} {B : Nat} {ad : Option Addr} {n cap : Nat} {fs : List F} (h : Inp w B ad n cap fs) (hne : fs ≠ []) : ∀ b, (Value.slice ad n cap).ownBlock = some b → b < B := fun b e => by
  obtain ⟨g, off, rfl, hg, _⟩ := h.2.2.2 hne
  simp [Value.ownBlock] at e
  omega
theorem DIn.put8' {w : World} {ad : Option Addr} {n cap : Nat} {fu fa : Int} {fs : List F} (h : DIn w ad n cap fu fa fs) {g : Nat} (ho : fs ≠ [] → (Value.slice ad n cap).ownBlock ≠ some g) (v0 v1 v2 v3 v4 v5 v6 v7 : Value) :
    DIn ((((((((w.setCell ⟨g, 0, none⟩ v0).setCell ⟨g, 1, none⟩ v1).setCell ⟨g, 2, none⟩ v2).setCell ⟨g, 3, none⟩ v3).setCell ⟨g, 4, none⟩ v4).setCell ⟨g, 5, none⟩ v5).setCell ⟨g, 6, none⟩ v6).setCell ⟨g, 7, none⟩ v7) ad n cap fu fa fs := by
  by_cases e : fs = []
  · subst e
    exact ⟨⟨h.i.1, h.i.2.1, h.i.2.2.1, fun h => absurd rfl h⟩, h.fit, h.u0, h.u1, h.f0, h.f1⟩
  · exact h.put8 (ho e) _ _ _ _ _ _ _ _
theorem LVar.put {w : World} {g : Nat} {x0 x1 x2 x3 x4 x5 x6 x7 : Value} (h : w.heap[g]? = some (.cells #[x0, x1, x2, x3, x4, x5, x6, x7] 27 (0, 0))) {ad : Option Addr} {n cap : Nat} {l : L} (hl : LIn w ad n cap l) (hne : l.d.files ≠ [] → (Value.slice ad n cap).ownBlock ≠ some g) : LVar (putL w g l (.slice ad n cap)) g ad n cap l :=
  ⟨blk_put8 h _ _ _ _ _ _ _ _, ⟨hl.d.put8' hne _ _ _ _ _ _ _ _, hl.s0, hl.s1, hl.f0, hl.f1, hl.n0, hl.n1⟩⟩
/-- .. in a new one -/
theorem LVar.new {w : World} {ad : Option Addr} {n cap : Nat} {l : L} (hl : LIn w ad n cap l) : LVar (putL (w.alloc (.cells zlog 27)) w.heap.size l (.slice ad n cap)) w.heap.size ad n cap l :=
  LVar.put (blk_new w _) (hl.under ((Below.refl _ w).alloc (Nat.le_refl _) _)) (fun h e => by have := hl.d.i.own_lt h _ e; omega)
theorem putL_below {B : Nat} {w0 w : World} {g : Nat} (h : Below B w0 w) (hg : B ≤ g) (l : L) (v : Value) : Below B w0 (putL w g l v) := below_put8 h hg _ _ _ _ _ _ _ _
theorem newL_below {B : Nat} {w0 w : World} (h : Below B w0 w) (hB : B ≤ w.heap.size) (l : L) (v : Value) : Below B w0 (putL (w.alloc (.cells zlog 27)) w.heap.size l v) := putL_below (h.alloc hB _) hB l v
end Go.Proofs.YtkhmdofeonlnpaaGreatDoor

/- SEGMENT: THE WALK OVER lives. -/
namespace Go.Proofs.YtkhmdofeonlnpaaGreatDoor
open Go.RowKit
set_option maxRecDepth 100000
set_option linter.unusedVariables false
set_option linter.unusedSimpArgs false
abbrev hiB : ByteArray := ⟨#[104, 105]⟩
abbrev hiF : F := ⟨nameB 1, frameB 1 hiB, 18⟩
theorem files_name {n : Nat} (hn : n ≤ 4611686018427387904) (d : ByteArray) (s : Int) : filesM [⟨nameB n, d, s⟩] = [⟨⟨nameB n, d, s⟩, n, hn⟩] := by
  rw [filesM_cons, sf1_some (n := n) (numB_name hn)]; rfl
theorem last_name {n : Nat} (hn : n ≤ 4611686018427387904) (d : ByteArray) (s : Int) : lastN2 [⟨nameB n, d, s⟩] = nameB n := by
  unfold lastN2 lastM; rw [files_name hn]; rfl
theorem app_hi : appM (kl [] [] (-1) (-1) 100) hiB = (⟨⟨[hiF], false, -1, -1⟩, 100, 1, 2, false⟩, 0) := by
  have hz : (frameB 1 hiB).size = 18 := frameB_size 1 hiB
  unfold appM
  rw [if_neg (by decide), if_neg (by show ¬ ((1 : Int) = 4611686018427387904); decide)]
  have hfb : frB (kl [] [] (-1) (-1) 100) hiB = frameB 1 hiB := rfl
  have h1 : add1 (kl [] [] (-1) (-1) 100) hiB = (⟨⟨[⟨nameB 1, ⟨#[]⟩, 0⟩], false, -1, -1⟩, 100, 1, 1, false⟩, 0) := by
    unfold add1
    rw [if_neg (by show ¬ roomM [] _ _ = true; unfold roomM lastM filesM; simp)]
    have e := doo_create (okN_name 1) (z := 0) (d := ⟨#[]⟩)
    show doS ⟨⟨[], false, -1, -1⟩, 100, 1, 1, false⟩ [⟨1, nameB 1, ⟨#[]⟩, 0⟩] = _
    unfold doS; rw [e, if_pos rfl]; unfold doS; rfl
  unfold addM
  rw [h1, hfb, if_pos rfl]
  unfold add2
  have hl : lastN2 [⟨nameB 1, ⟨#[]⟩, 0⟩] = nameB 1 := last_name (by omega) _ _
  have e1 := doo_append (f := ⟨nameB 1, ⟨#[]⟩, 0⟩) ⟨okN_name 1, by decide, by decide, by decide⟩ (d := frameB 1 hiB) (z := 0) (by rw [hz]; decide)
  have e2 := doo_sync (f := ⟨nameB 1, (⟨#[]⟩ : ByteArray) ++ frameB 1 hiB, 0⟩) ⟨okN_name 1, by simp only [size_app, hz]; decide, by decide, by simp only [size_app, hz]; decide⟩ (d := ⟨#[]⟩) (z := 0)
  have hd : (⟨#[]⟩ : ByteArray) ++ frameB 1 hiB = frameB 1 hiB := app_nil_left (by rfl) _
  rw [hd] at e1 e2
  have e3 : doS ⟨⟨[⟨nameB 1, ⟨#[]⟩, 0⟩], false, -1, -1⟩, 100, 1, 1, false⟩ [⟨2, nameB 1, frameB 1 hiB, 0⟩, ⟨3, nameB 1, ⟨#[]⟩, 0⟩] = (⟨⟨[hiF], false, -1, -1⟩, 100, 1, 1, false⟩, 0) := by
    unfold doS; rw [e1, if_pos rfl]; unfold doS; rw [e2, if_pos rfl]; unfold doS
    simp only [hz]
    rfl
  simp only [hl, e3]
  rfl
theorem kk_hi : KK [hiF] 1 [⟨1, hiB, by omega, by decide⟩] := by
  have h := app_kk (fs := []) (rs := []) (fuse := -1) (fault := -1) (size := 100) (d := hiB) kk_nil (by omega) (by unfold Num; omega) (by unfold Num; omega)
  rw [app_hi] at h
  obtain ⟨_, _, hk, _⟩ := h.ok rfl
  exact hk
theorem rd_hi : (rdF [hiF]).rs = [⟨1, hiB, by omega, by decide⟩] := by rw [kk_rdF kk_hi]
/-- a log that came back, in a new variable -/
theorem LVar.alloc {w : World} {ad : Option Addr} {n cap : Nat} {l : L} (hl : LIn w ad n cap l) : LVar (w.alloc (.cells (l.cells (.slice ad n cap)) 27)) w.heap.size ad n cap l :=
  ⟨blk_new w _, hl.under ((Below.refl _ w).alloc (Nat.le_refl _) _)⟩

abbrev l0L : L := ⟨⟨[], false, -1, -1⟩, 100, 1, 1, false⟩
abbrev l1L : L := ⟨⟨[hiF], false, -1, -1⟩, 100, 1, 2, false⟩
theorem open_l0 : openM ⟨[], false, -1, -1⟩ 100 = (l0L, [], 0) := open_kk kk_nil (by omega)
theorem nm_one : (⟨#[48, 48, 48, 48, 48, 48, 48, 48, 48, 48, 48, 48, 48, 48, 48, 49]⟩ : ByteArray) = nameB 1 := by rfl
theorem read_hi : rdv ⟨[hiF], false, -1, -1⟩ ⟨#[48, 48, 48, 48, 48, 48, 48, 48, 48, 48, 48, 48, 48, 48, 48, 49]⟩ = (frameB 1 hiB, 0) := by
  rw [nm_one]
  exact rdv_one (f := hiF) (kk_hi.R.ok _ (by simp))
theorem zl_no : ¬ LRight zl := fun h => by have := h.2.1.1; simp [zl] at this
end Go.Proofs.YtkhmdofeonlnpaaGreatDoor

/- SEGMENT: THE WALK OVER kept. -/
namespace Go.Proofs.YtkhmdofeonlnpaaGreatDoor
open Go.RowKit
set_option maxRecDepth 100000
set_option linter.unusedVariables false
set_option linter.unusedSimpArgs false
/-- texts that came in -/
def Strs (w : World) (B : Nat) (ad : Option Addr) (ss : List ByteArray) : Prop := ss ≠ [] → ∃ g off, ad = some ⟨g, off, none⟩ ∧ g < B ∧ ∀ i s, ss[i]? = some s → w.cell? ⟨g, off + i, none⟩ = some (.string s)
theorem Strs.keep {w w' : World} {B : Nat} {ad : Option Addr} {ss : List ByteArray} (h : Strs w B ad ss) (hb : Below B w w') : Strs w' B ad ss :=
  fun hne => by obtain ⟨g, off, e, hg, hi⟩ := h hne; exact ⟨g, off, e, hg, fun i k hk => (hb.cell (p := ⟨g, off + i, none⟩) hg).trans (hi i k hk)⟩
theorem RRow.under {w w' : World} {base : Nat} {v : Value} {rs : List Rec} (h : RRow w base v rs) (hb : Below w.heap.size w w') : RRow w' base v rs :=
  h.kept (row := none) ⟨hb.os, hb.tape, hb.output, hb.size, fun k hk _ => hb.block k hk⟩ (by simp)
theorem LIn.set {w : World} {g o : Nat} {v : Value} {ad : Option Addr} {n cap : Nat} {l : L} (h : LIn w ad n cap l) (ho : l.d.files ≠ [] → (Value.slice ad n cap).ownBlock ≠ some g) : LIn (w.setCell ⟨g, o, none⟩ v) ad n cap l := by
  by_cases e : l.d.files = []
  · exact ⟨⟨⟨h.d.i.1, h.d.i.2.1, h.d.i.2.2.1, fun hh => absurd e hh⟩, h.d.fit, h.d.u0, h.d.u1, h.d.f0, h.d.f1⟩, h.s0, h.s1, h.f0, h.f1, h.n0, h.n1⟩
  · exact ⟨⟨(Inp.set h.d.i (ho e)).mono (by simp [World.setCell]), h.d.fit, h.d.u0, h.d.u1, h.d.f0, h.d.f1⟩, h.s0, h.s1, h.f0, h.f1, h.n0, h.n1⟩
/-- fuse and fault are set -/
theorem LVar.fz {w : World} {q : Nat} {ad : Option Addr} {n cap : Nat} {l : L} (h : LVar w q ad n cap l) (ho : l.d.files ≠ [] → (Value.slice ad n cap).ownBlock ≠ some q) {u v : Int} (hu : Num u) (hv : Num v) :
    LVar ((w.setCell ⟨q, 2, none⟩ (.int .i64 u)).setCell ⟨q, 3, none⟩ (.int .i64 v)) q ad n cap { l with d := ⟨l.d.files, l.d.down, u, v⟩ } := by
  have h1 := LIn.set (o := 3) (v := .int .i64 v) (LIn.set (o := 2) (v := .int .i64 u) h.i ho) ho
  exact ⟨heap_setCell_same _ q 3 _ 27 _ (heap_setCell_same w q 2 _ 27 _ h.b), ⟨⟨h1.d.i, h1.d.fit, hu.1, hu.2, hv.1, hv.2⟩, h1.s0, h1.s1, h1.f0, h1.f1, h1.n0, h1.n1⟩⟩
/-- another row has grown -/
theorem DIn.grown {w w' : World} {row : Option Nat} {ad : Option Addr} {n cap : Nat} {fu fa : Int} {fs : List F} (h : DIn w ad n cap fu fa fs) (hg : w.grownBy w' row) (hne : ∀ b, (Value.slice ad n cap).ownBlock = some b → row ≠ some b) : DIn w' ad n cap fu fa fs := by
  refine ⟨⟨h.i.1, h.i.2.1, h.i.2.2.1, fun hn => ?_⟩, h.fit, h.u0, h.u1, h.f0, h.f1⟩
  obtain ⟨g, off, rfl, hgs, hc⟩ := h.i.2.2.2 hn
  refine ⟨g, off, rfl, Nat.lt_of_lt_of_le hgs hg.size, fun i f hf => ?_⟩
  have hb := hg.block g hgs (fun e => hne g rfl e.symm)
  obtain ⟨c0, c1, c2⟩ := hc i f hf
  exact ⟨(World.cell?_of_block hb).trans c0, (World.cell?_of_block hb).trans c1, (World.cell?_of_block hb).trans c2⟩

theorem RRow.other {w w' : World} {base g : Nat} {v : Value} {rs : List Rec} (h : RRow w base v rs) (hg : w.grownBy w' (some g)) (hne : v.ownBlock ≠ some g) : RRow w' base v rs := ⟨h.1.kept hg (.inr hne), h.2⟩
theorem Tabs.other {w w' : World} {row : Option Nat} (h : Tabs w) (hg : w.grownBy w' row) (hw : 6 ≤ w.heap.size) (hr : ∀ b, row = some b → 6 ≤ b) : Tabs w' :=
  h.low (n₀ := 6) (Nat.le_refl _) (fun k hk => hg.block k (by omega) (fun e => by have := hr k e.symm; omega)) hg.size

end Go.Proofs.YtkhmdofeonlnpaaGreatDoor

/- SEGMENT, MATHEMATICS: what was opened, opened again. -/
namespace Go.Proofs.YtkhmdofeonlnpaaGreatDoor
open Go.RowKit
set_option maxRecDepth 100000
set_option linter.unusedVariables false
set_option linter.unusedSimpArgs false
theorem rdF_count {fs : List F} (hR : Right fs) : (rdF fs).rs.length ≤ 16777216 := by
  have h1 := rdM_count (filesM fs) (fromM (filesM fs)) (fun s hs => (hR.ok _ (filesM_mem hs).1).2.1)
  have h2 := filesM_len fs
  have h3 := hR.1
  show (rdM _ _).rs.length ≤ _
  omega
theorem rdF_len (fs : List F) : (rdF fs).nx = fromM (filesM fs) + (rdF fs).rs.length := rdM_len _ _
theorem rdF_bd (fs : List F) : (rdF fs).nx ≤ 4611686018427387904 := rdM_bd _ _ (fromM_bd _)
theorem rdF_seq {fs : List F} {i : Nat} {r : Rec} (h : (rdF fs).rs[i]? = some r) : r.seq = fromM (filesM fs) + i := rdM_seq _ _ i r h
theorem openM_err {d : D} {size : Int} {l : L} {rs : List Rec} {c : Int} (h : openM d size = (l, rs, c)) (hc : c ≠ 0) : rs = [] := by
  unfold openM at h
  split at h
  · injection h with _ h; injection h with h _; exact h.symm
  split at h
  · injection h with _ h; injection h with h _; exact h.symm
  split at h
  · injection h with _ h; injection h with h _; exact h.symm
  split at h
  · injection h with _ h; injection h with _ h; exact absurd h.symm hc
  · injection h with _ h; injection h with h _; exact h.symm
/-- what an opening that was OK left -/
structure Opened (l : L) (rs : List Rec) (size : Int) : Prop where
  again : openM l.d size = (l, rs, 0)
  R : LRight l
  br : l.broken = false
  dn : l.d.down = false
  rd : (rdF l.d.files).rs = rs
  len : rs.length ≤ 16777216
  sz : l.size = size
  md : mendM l.d.files = []
  seq : ∃ n : Nat, l.fr = (n : Int) ∧ l.nx = ((n + rs.length : Nat) : Int) ∧ n + rs.length ≤ 4611686018427387904 ∧ ∀ i r, rs[i]? = some r → r.seq = n + i
theorem opened {d : D} {size : Int} {l : L} {rs : List Rec} (h : openM d size = (l, rs, 0)) : Opened l rs size := by
  have hR : Right d.files := Classical.byContradiction fun hn => by
    unfold openM at h; rw [if_pos hn] at h; injection h with _ h; injection h with _ h; cases h
  have hs : 1 ≤ size ∧ size ≤ 262144 := Classical.byContradiction fun hn => by
    unfold openM at h; rw [if_neg (fun q => q hR), if_pos hn] at h; injection h with _ h; injection h with _ h; cases h
  have hd : d.down = false := by
    cases e : d.down with
    | false => rfl
    | true => unfold openM at h; rw [if_neg (fun q => q hR), if_neg (fun q => q hs), if_pos e] at h; injection h with _ h; injection h with _ h; cases h
  obtain ⟨r, _, hM, ho⟩ := open_ok hR hs hd
  rw [h] at ho
  by_cases hc : r.2 = 0
  · rw [if_pos hc] at ho
    obtain ⟨m1, m2, m3, m4⟩ := hM.ok hc
    have e1 := congrArg Prod.fst ho
    have e2 : rs = (rdF d.files).rs := congrArg (fun x => x.2.1) ho
    simp only at e1
    have hsz := hM.sz
    obtain ⟨⟨⟨gs, dn, fu, fa⟩, sz, fr, nx, br⟩, c⟩ := r
    simp only at m1 m2 m3 m4 hsz e1
    have q1 := hM.R
    have q2 := hM.rs
    have q3 := hM.nx
    have q4 := hM.fm
    simp only at q1 q2 q3 q4
    subst e1 m2 m3 hsz e2
    have hlen := rdF_len d.files
    have hbd := rdF_bd d.files
    refine ⟨?_, ⟨q1, hs, ?_, ?_⟩, rfl, rfl, q2, rdF_count hR, rfl, m1, ⟨fromM (filesM d.files), rfl, ?_, by omega, fun i r hi => rdF_seq hi⟩⟩
    · unfold openM
      rw [if_neg (fun q => q q1), if_neg (fun q => q hs), if_neg (by simp)]
      simp only [m1, doS, if_pos, q2, q3, q4]
    · show (fromM (filesM d.files) : Int) ≤ ((rdF d.files).nx : Int)
      omega
    · show ((rdF d.files).nx : Int) ≤ 4611686018427387904
      omega
    · show ((rdF d.files).nx : Int) = _
      rw [hlen]
  · rw [if_neg hc] at ho
    exact absurd (congrArg (fun x => x.2.2) ho).symm hc
end Go.Proofs.YtkhmdofeonlnpaaGreatDoor

/- SEGMENT: THE WALK OVER SegmentKeeps. -/
namespace Go.Proofs.YtkhmdofeonlnpaaGreatDoor
open Go.RowKit
set_option maxRecDepth 100000
set_option linter.unusedVariables false
set_option linter.unusedSimpArgs false
theorem crash_is (w : World) (ad : Option Addr) (n cap : Nat) (down : Bool) (fuse fault : Int) (fs : List F) (h : DIn w ad n cap fuse fault fs) (hR : Right fs) (adk : Option Addr) (nk capk : Nat) (ks : List Int) (hk : Ints w w.heap.size adk ks) (hnk : nk = ks.length) (hnk63 : nk ≤ 9223372036854775807) :
    Calls Tryz.prog 20 #[.agg (dcells (.slice ad n cap) down fuse fault), .slice adk nk capk] w fun e w' => ∃ ad2 n2 cap2, e = .returned (.tuple #[.agg (dcells (.slice ad2 n2 cap2) false (-1) (-1)), .int .i64 0]) ∧ DIn w' ad2 n2 cap2 (-1) (-1) (crashL ks fs) ∧ Below w.heap.size w w' := by
  have h1 := Crash_any w ad n cap down fuse fault fs h adk nk capk ks hk hnk hnk63
  rw [crv_right (d := ⟨fs, down, fuse, fault⟩) hR] at h1
  exact h1.mono fun e w' ⟨ad2, n2, cap2, he, hi, hb, _⟩ => ⟨ad2, n2, cap2, he, ⟨hi, fun f hf => okF_fit ((right_crash hR ks).ok f hf), by omega, by omega, by omega, by omega⟩, hb⟩
theorem RAt.pre {w : World} {B : Nat} {ad : Option Addr} {rs a : List Rec} (h : RAt w B ad rs) (hp : ∃ b, rs = a ++ b) : RAt w B ad a := fun hne => by
  obtain ⟨b, rfl⟩ := hp
  obtain ⟨g, off, e, hg, hc⟩ := h (by simp [hne])
  exact ⟨g, off, e, hg, fun i r hi => hc i r (by rw [List.getElem?_append_left (List.getElem?_eq_some_iff.1 hi).1]; exact hi)⟩
theorem kk_seq {fs : List F} {rs : List Rec} (h : KK fs 1 rs) {i : Nat} {r : Rec} (hi : rs[i]? = some r) : (r.seq : Int) = (i : Int) + 1 := by
  have := rdM_seq (filesM fs) 1 i r (by rw [h.rd]; exact hi)
  omega

end Go.Proofs.YtkhmdofeonlnpaaGreatDoor

/- SEGMENT: what is carried through a law's walk. -/
namespace Go.Proofs.YtkhmdofeonlnpaaGreatDoor
open Go.RowKit
set_option maxRecDepth 100000
set_option linter.unusedVariables false
set_option linter.unusedSimpArgs false
/-- a block's cells -/
def Blk (w : World) (q : Nat) (cs : Array Value) (t : TypeId) : Prop := w.heap[q]? = some (.cells cs t (0, 0))
theorem Blk.under {w w' : World} {q : Nat} {cs : Array Value} {t : TypeId} (h : Blk w q cs t) (hb : Below w.heap.size w w') : Blk w' q cs t := (hb.block _ (Array.getElem?_eq_some_iff.1 h).1).trans h
theorem Blk.lt {w : World} {q : Nat} {cs : Array Value} {t : TypeId} (h : Blk w q cs t) : q < w.heap.size := (Array.getElem?_eq_some_iff.1 h).1
/-- texts, numbers, records that lie in memory -/
def StrsW (w : World) (ad : Option Addr) (ss : List ByteArray) : Prop := Strs w w.heap.size ad ss
theorem StrsW.under {w w' : World} {ad : Option Addr} {ss : List ByteArray} (h : StrsW w ad ss) (hb : Below w.heap.size w w') : StrsW w' ad ss :=
  fun hne => by obtain ⟨g, off, e, hg, hi⟩ := (Strs.keep h hb) hne; exact ⟨g, off, e, Nat.lt_of_lt_of_le hg hb.size, hi⟩
def IntsW (w : World) (ad : Option Addr) (ks : List Int) : Prop := Ints w w.heap.size ad ks
theorem IntsW.under {w w' : World} {ad : Option Addr} {ks : List Int} (h : IntsW w ad ks) (hb : Below w.heap.size w w') : IntsW w' ad ks :=
  ⟨h.1, fun hne => by obtain ⟨g, off, e, hg, hi⟩ := (Ints.keep h hb).2 hne; exact ⟨g, off, e, Nat.lt_of_lt_of_le hg hb.size, hi⟩⟩
/-- the heap has the package's variables -/
def Big (w : World) : Prop := 5 < w.heap.size
theorem Big.under {w w' : World} (h : Big w) (hb : Below w.heap.size w w') : Big w' := Nat.lt_of_lt_of_le h hb.size
/-- the disk of an opened log, the log itself -/
theorem lin_of {w : World} {ad : Option Addr} {n cap : Nat} {l : L} (hd : DIn w ad n cap l.d.fuse l.d.fault l.d.files) (hR : LRight l) (hf : 0 ≤ l.fr) : LIn w ad n cap l := by
  obtain ⟨h1, h2, h3, h4⟩ := hR
  exact ⟨hd, by omega, by omega, hf, by omega, by omega, by omega⟩
end Go.Proofs.YtkhmdofeonlnpaaGreatDoor

/- SEGMENT: THE WALK OVER SegmentTwins. -/
namespace Go.Proofs.YtkhmdofeonlnpaaGreatDoor
open Go.RowKit
set_option maxRecDepth 100000
set_option linter.unusedVariables false
set_option linter.unusedSimpArgs false
theorem append_is3 {l : L} {data : ByteArray} {r : L × Int} (hr : appM l data = r) (w : World) (ad : Option Addr) (n cap : Nat) (hR : LRight l) (hbk : l.broken = false) (hds : data.size ≤ 9223372036854775807) (h : LIn w ad n cap l) (hT : Tabs w) (hw : 5 < w.heap.size) :
    Calls Tryz.prog 124 #[.agg (l.cells (.slice ad n cap)), .string data] w fun e w' => ∃ ad2 n2 cap2, e = .returned (.tuple #[.agg (r.1.cells (.slice ad2 n2 cap2)), .int .i64 r.2]) ∧ DIn w' ad2 n2 cap2 r.1.d.fuse r.1.d.fault r.1.d.files ∧ (∀ b, (Value.slice ad2 n2 cap2).ownBlock = some b → w.heap.size ≤ b ∧ Free w' b) ∧ Below w.heap.size w w' := by
  subst hr
  have hn : n ≤ 1000 := by have h1 := h.d.i.1; have h2 := hR.1.1; omega
  have hc : chM (fun l => appM l data) l = appM l data := by unfold chM; rw [if_neg (by rw [hbk]; decide)]
  refine (append_any w ad n cap l data hds h hn hT hw).mono fun e w' hP => ?_
  rcases hP with ⟨hb, ⟨hno, _⟩ | ⟨_, ad2, n2, cap2, he, hd, ho⟩⟩
  · exact absurd hR hno
  · rw [hc] at he hd
    exact ⟨ad2, n2, cap2, he, hd, ho, hb⟩
theorem Blk.other {w w' : World} {q g : Nat} {cs : Array Value} {t : TypeId} (h : Blk w q cs t) (hg : w.grownBy w' (some g)) (hne : q ≠ g) : Blk w' q cs t :=
  (hg.block _ (Array.getElem?_eq_some_iff.1 h).1 (fun e => hne (by injection e))).trans h
/-- the texts of a list's files are written over -/
def Junk (w : World) (n : Nat) (ad : Option Addr) : Prop := 0 < n → ∃ g off, ad = some ⟨g, off, none⟩ ∧ Free w g ∧ ∀ j, j < n → ∃ v, w.cell? ⟨g, off + j * 3 + 1, none⟩ = some v
theorem Junk.under {w w' : World} {n : Nat} {ad : Option Addr} (h : Junk w n ad) (hb : Below w.heap.size w w') : Junk w' n ad := fun hn => by
  obtain ⟨g, off, e, hf, hc⟩ := h hn
  refine ⟨g, off, e, hf.under hb, fun j hj => ?_⟩
  obtain ⟨v, hv⟩ := hc j hj
  exact ⟨v, (World.cell?_of_block (a := ⟨g, off + j * 3 + 1, none⟩) (hb.block g hf.lt)).trans hv⟩

end Go.Proofs.YtkhmdofeonlnpaaGreatDoor

/- QUEUE, MATHEMATICS: what a step leaves of a right queue. -/
namespace Go.Proofs.YtkhmdofeonlnpaaGreatDoor
open Go.RowKit
set_option maxRecDepth 100000
set_option linter.unusedVariables false
set_option linter.unusedSimpArgs false

theorem doS_ends : ∀ (ss : List S) (l : L), ((doS l ss).2 = 0 → (doS l ss).1.broken = l.broken) ∧ ((doS l ss).2 ≠ 0 → (doS l ss).1.broken = true)
  | [], l => ⟨fun _ => rfl, fun h => absurd rfl h⟩
  | s :: r, l => by
    unfold doS
    split
    · exact doS_ends r { l with d := (doo l.d s).1 }
    · rename_i h
      exact ⟨fun q => absurd q h, fun _ => rfl⟩
theorem doS_num : ∀ (ss : List S) (l : L), Num l.d.fuse → Num l.d.fault → Num (doS l ss).1.d.fuse ∧ Num (doS l ss).1.d.fault
  | [], l, h1, h2 => ⟨h1, h2⟩
  | s :: r, l, h1, h2 => by
    obtain ⟨a, b, c⟩ := doo_all l.d s h1 h2
    unfold doS
    split
    · exact doS_num r { l with d := (doo l.d s).1 } b c
    · exact ⟨b, c⟩
/-- what an append leaves -/
structure AppF (l : L) (r : L × Int) : Prop where
  R : LRight r.1
  fr : r.1.fr = l.fr
  sz : r.1.size = l.size
  ok : r.2 = 0 → r.1.broken = l.broken ∧ r.1.nx = l.nx + 1
  no : r.2 ≠ 0 → (r.1 = l ∨ r.1.broken = true) ∧ r.1.nx = l.nx
theorem app_facts {l : L} {d : ByteArray} (hR : LRight l) (hu : Num l.d.fuse) (ha : Num l.d.fault) : AppF l (appM l d) := by
  obtain ⟨h1, h2, h3, h4⟩ := hR
  unfold appM
  split
  · exact ⟨⟨h1, h2, h3, h4⟩, rfl, rfl, (fun h => by simp at h), fun _ => ⟨.inl rfl, rfl⟩⟩
  split
  · exact ⟨⟨h1, h2, h3, h4⟩, rfl, rfl, (fun h => by simp at h), fun _ => ⟨.inl rfl, rfl⟩⟩
  rename_i hd hn
  have key : ∀ ss : List S, AppF l (doS l ss) ∨ (doS l ss).2 = 0 := fun ss => by
    obtain ⟨a, b, c, e⟩ := doS_keep ss l h1 hu ha
    by_cases h0 : (doS l ss).2 = 0
    · exact .inr h0
    · exact .inl ⟨⟨a, by rw [b]; exact h2, by rw [c, e]; exact h3, by rw [e]; exact h4⟩, c, b, fun h => absurd h h0, fun _ => ⟨.inr ((doS_ends ss l).2 h0), e⟩⟩
  unfold addM
  have k1 : AppF l (add1 l d) ∨ (add1 l d).2 = 0 := by
    unfold add1
    split
    · exact .inr rfl
    · exact key _
  have k2 : Right (add1 l d).1.d.files ∧ (add1 l d).1.size = l.size ∧ (add1 l d).1.fr = l.fr ∧ (add1 l d).1.nx = l.nx ∧ ((add1 l d).2 = 0 → (add1 l d).1.broken = l.broken) ∧ Num (add1 l d).1.d.fuse ∧ Num (add1 l d).1.d.fault := by
    unfold add1
    split
    · exact ⟨h1, rfl, rfl, rfl, fun _ => rfl, hu, ha⟩
    · obtain ⟨a, b, c, e⟩ := doS_keep [⟨1, nameB l.nx.toNat, ⟨#[]⟩, 0⟩] l h1 hu ha
      exact ⟨a, b, c, e, (doS_ends _ l).1, doS_num _ l hu ha⟩
  obtain ⟨r, hr⟩ : ∃ r, add1 l d = r := ⟨_, rfl⟩
  rw [hr] at k1 k2 ⊢
  obtain ⟨l1, c1⟩ := r
  simp only at k1 k2 ⊢
  obtain ⟨g1, g2, g3, g4, g5, g6, g7⟩ := k2
  by_cases hc : c1 = 0
  · rw [if_pos hc]
    have g5' := g5 hc
    unfold add2
    obtain ⟨a, b, c, e⟩ := doS_keep [⟨2, lastN2 l1.d.files, frB l d, 0⟩, ⟨3, lastN2 l1.d.files, ⟨#[]⟩, 0⟩] l1 g1 g6 g7
    have hends := doS_ends [⟨2, lastN2 l1.d.files, frB l d, 0⟩, ⟨3, lastN2 l1.d.files, ⟨#[]⟩, 0⟩] l1
    split
    · rename_i h0
      refine ⟨⟨a, by show _ ∧ _; simp only; rw [b, g2]; exact h2, ?_, ?_⟩, by simp only; rw [c, g3], by simp only; rw [b, g2], fun _ => ⟨by simp only; rw [hends.1 h0, g5'], by simp only; rw [g4]⟩, fun h => absurd rfl h⟩
      · simp only; rw [c, g3, g4]; omega
      · simp only; rw [g4]; omega
    · rename_i h0
      refine ⟨⟨a, by rw [b, g2]; exact h2, by rw [c, e, g3, g4]; exact h3, by rw [e, g4]; exact h4⟩, by rw [c, g3], by rw [b, g2], fun h => absurd h h0, fun _ => ⟨.inr (hends.2 h0), by rw [e, g4]⟩⟩
  · rw [if_neg hc]
    rcases k1 with k | k
    · exact k
    · exact absurd k hc
/-- what a drop leaves -/
structure CutF (l : L) (r : L × Int) : Prop where
  R : Right r.1.d.files
  sz : r.1.size = l.size
  nx : r.1.nx = l.nx
  fr : r.1.fr = l.fr ∨ (0 ≤ r.1.fr ∧ r.1.fr ≤ 4611686018427387904)
  ok : r.2 = 0 → r.1.broken = l.broken
  no : r.2 ≠ 0 → r.1 = l ∨ r.1.broken = true
theorem cut_facts {l : L} {q : Int} (hR : Right l.d.files) (hu : Num l.d.fuse) (ha : Num l.d.fault) : CutF l (cutM l q) := by
  unfold cutM
  split
  · exact ⟨hR, rfl, rfl, .inl rfl, (fun h => by simp at h), fun _ => .inl rfl⟩
  unfold dropM
  have hk : ∃ ss, dropS l q = doS l ss := ⟨_, rfl⟩
  obtain ⟨ss, hss⟩ := hk
  rw [hss]
  obtain ⟨a, b, c, e⟩ := doS_keep ss l hR hu ha
  have hends := doS_ends ss l
  split
  · rename_i h0
    split
    · rename_i s _
      exact ⟨a, b, e, .inr ⟨by simp only; omega, by simp only; have := s.hn; omega⟩, fun _ => hends.1 h0, fun h => absurd rfl h⟩
    · exact ⟨a, b, e, .inl c, fun _ => hends.1 h0, fun h => absurd rfl h⟩
  · rename_i h0
    exact ⟨a, b, e, .inl c, fun h => absurd h h0, fun _ => .inr (hends.2 h0)⟩

theorem findIdx?_lt {α : Type} {p : α → Bool} {l : List α} {i : Nat} (h : l.findIdx? p = some i) : ∃ x, l[i]? = some x ∧ p x = true ∧ ∀ j y, j < i → l[j]? = some y → p y = false := by
  rw [List.findIdx?_eq_some_iff_getElem] at h
  obtain ⟨h1, h2, h3⟩ := h
  refine ⟨l[i], by simp, h2, fun j y hj hy => ?_⟩
  obtain ⟨q1, q2⟩ := List.getElem?_eq_some_iff.1 hy
  have := h3 j hj
  rw [q2] at this
  simpa using this
theorem set_len {α : Type} (l : List α) (i : Nat) (x : α) : (l.set i x).length = l.length := List.length_set
theorem inM_erase {nx : Nat} {es : List E} {fr : Nat} (i : Nat) (h : inM nx fr es) : inM nx fr (es.eraseIdx i) := by
  obtain ⟨h1, h2⟩ := inM_iff.1 h
  exact inM_iff.2 ⟨fun e he => h1 e (List.mem_of_mem_eraseIdx he), h2.sublist (List.eraseIdx_sublist _ _)⟩
/-- what a step leaves of a right queue -/
structure StF (q : Q) (a : Ans) : Prop where
  R : a.1.l.fr ≤ a.1.l.nx → (∀ e ∈ a.1.es, a.1.l.fr.toNat ≤ e.seq) → QRight a.1
  no : a.2.2 ≠ 0 → a.2.1 = zE ∧ (a.1 = q ∨ a.1.l.broken = true)
  len : a.1.es.length ≤ max q.es.length q.most.toNat
  fr0 : 0 ≤ a.1.l.fr ∧ a.1.l.fr ≤ 4611686018427387904
  Rf : Right a.1.l.d.files
  nx0 : 0 ≤ a.1.l.nx ∧ a.1.l.nx ≤ 4611686018427387904
end Go.Proofs.YtkhmdofeonlnpaaGreatDoor

/- QUEUE: THE WALKS OVER write, drop, first. -/
namespace Go.Proofs.YtkhmdofeonlnpaaGreatDoor
open Go.RowKit
set_option maxRecDepth 100000
set_option linter.unusedVariables false
set_option linter.unusedSimpArgs false

theorem Tabs.kq {w w' : World} {g : Nat} {u : Value} (h : Tabs w) (hk : Kq g u w w') (hg : 5 < g) (hu : ∀ b, u.ownBlock = some b → 5 < b) : Tabs w' :=
  h.low (n₀ := 6) (Nat.le_refl _) (fun k hk2 => hk.block k (by have := h.sz; omega) (by omega) (fun e => by have := hu k e; omega)) hk.size
/-- a log is stored in a queue's box -/
theorem QAt.log {w : World} {base g : Nat} {ad : Option Addr} {n cap : Nat} {u : Value} {q : Q} (h : QAt w base g ad n cap u q) {ad2 : Option Addr} {n2 cap2 : Nat} {l2 : L} (hl : LIn w ad2 n2 cap2 l2) (hg : (Value.slice ad2 n2 cap2).ownBlock ≠ some g) (hu : ∀ b, (Value.slice ad2 n2 cap2).ownBlock = some b → u.ownBlock ≠ some b) (hv : ∀ b, (Value.slice ad2 n2 cap2).ownBlock = some b → b < w.heap.size) (hvb : ∀ b, (Value.slice ad2 n2 cap2).ownBlock = some b → base ≤ b) :
    QAt ((((((((w.setCell ⟨g, 0, none⟩ (.slice ad2 n2 cap2)).setCell ⟨g, 1, none⟩ (.bool l2.d.down)).setCell ⟨g, 2, none⟩ (.int .i64 l2.d.fuse)).setCell ⟨g, 3, none⟩ (.int .i64 l2.d.fault)).setCell ⟨g, 4, none⟩ (.int .i64 l2.size)).setCell ⟨g, 5, none⟩ (.int .u64 l2.fr)).setCell ⟨g, 6, none⟩ (.int .u64 l2.nx)).setCell ⟨g, 7, none⟩ (.bool l2.broken)) base g ad2 n2 cap2 u ⟨l2, q.es, q.most⟩ ∧ w.grownBy ((((((((w.setCell ⟨g, 0, none⟩ (.slice ad2 n2 cap2)).setCell ⟨g, 1, none⟩ (.bool l2.d.down)).setCell ⟨g, 2, none⟩ (.int .i64 l2.d.fuse)).setCell ⟨g, 3, none⟩ (.int .i64 l2.d.fault)).setCell ⟨g, 4, none⟩ (.int .i64 l2.size)).setCell ⟨g, 5, none⟩ (.int .u64 l2.fr)).setCell ⟨g, 6, none⟩ (.int .u64 l2.nx)).setCell ⟨g, 7, none⟩ (.bool l2.broken)) (some g) := by
  have h0 : (w.setCell ⟨g, 0, none⟩ (.slice ad2 n2 cap2)).heap[g]? = some (.cells #[.slice ad2 n2 cap2, .bool q.l.d.down, .int .i64 q.l.d.fuse, .int .i64 q.l.d.fault, .int .i64 q.l.size, .int .u64 q.l.fr, .int .u64 q.l.nx, .bool q.l.broken, u, .int .i64 q.most] 139 (0, 0)) := heap_setCell_same _ g 0 _ 139 _ h.h
  have h1 : ((w.setCell ⟨g, 0, none⟩ (.slice ad2 n2 cap2)).setCell ⟨g, 1, none⟩ (.bool l2.d.down)).heap[g]? = some (.cells #[.slice ad2 n2 cap2, .bool l2.d.down, .int .i64 q.l.d.fuse, .int .i64 q.l.d.fault, .int .i64 q.l.size, .int .u64 q.l.fr, .int .u64 q.l.nx, .bool q.l.broken, u, .int .i64 q.most] 139 (0, 0)) := heap_setCell_same _ g 1 _ 139 _ h0
  have h2 : (((w.setCell ⟨g, 0, none⟩ (.slice ad2 n2 cap2)).setCell ⟨g, 1, none⟩ (.bool l2.d.down)).setCell ⟨g, 2, none⟩ (.int .i64 l2.d.fuse)).heap[g]? = some (.cells #[.slice ad2 n2 cap2, .bool l2.d.down, .int .i64 l2.d.fuse, .int .i64 q.l.d.fault, .int .i64 q.l.size, .int .u64 q.l.fr, .int .u64 q.l.nx, .bool q.l.broken, u, .int .i64 q.most] 139 (0, 0)) := heap_setCell_same _ g 2 _ 139 _ h1
  have h3 : ((((w.setCell ⟨g, 0, none⟩ (.slice ad2 n2 cap2)).setCell ⟨g, 1, none⟩ (.bool l2.d.down)).setCell ⟨g, 2, none⟩ (.int .i64 l2.d.fuse)).setCell ⟨g, 3, none⟩ (.int .i64 l2.d.fault)).heap[g]? = some (.cells #[.slice ad2 n2 cap2, .bool l2.d.down, .int .i64 l2.d.fuse, .int .i64 l2.d.fault, .int .i64 q.l.size, .int .u64 q.l.fr, .int .u64 q.l.nx, .bool q.l.broken, u, .int .i64 q.most] 139 (0, 0)) := heap_setCell_same _ g 3 _ 139 _ h2
  have h4 : (((((w.setCell ⟨g, 0, none⟩ (.slice ad2 n2 cap2)).setCell ⟨g, 1, none⟩ (.bool l2.d.down)).setCell ⟨g, 2, none⟩ (.int .i64 l2.d.fuse)).setCell ⟨g, 3, none⟩ (.int .i64 l2.d.fault)).setCell ⟨g, 4, none⟩ (.int .i64 l2.size)).heap[g]? = some (.cells #[.slice ad2 n2 cap2, .bool l2.d.down, .int .i64 l2.d.fuse, .int .i64 l2.d.fault, .int .i64 l2.size, .int .u64 q.l.fr, .int .u64 q.l.nx, .bool q.l.broken, u, .int .i64 q.most] 139 (0, 0)) := heap_setCell_same _ g 4 _ 139 _ h3
  have h5 : ((((((w.setCell ⟨g, 0, none⟩ (.slice ad2 n2 cap2)).setCell ⟨g, 1, none⟩ (.bool l2.d.down)).setCell ⟨g, 2, none⟩ (.int .i64 l2.d.fuse)).setCell ⟨g, 3, none⟩ (.int .i64 l2.d.fault)).setCell ⟨g, 4, none⟩ (.int .i64 l2.size)).setCell ⟨g, 5, none⟩ (.int .u64 l2.fr)).heap[g]? = some (.cells #[.slice ad2 n2 cap2, .bool l2.d.down, .int .i64 l2.d.fuse, .int .i64 l2.d.fault, .int .i64 l2.size, .int .u64 l2.fr, .int .u64 q.l.nx, .bool q.l.broken, u, .int .i64 q.most] 139 (0, 0)) := heap_setCell_same _ g 5 _ 139 _ h4
  have h6 : (((((((w.setCell ⟨g, 0, none⟩ (.slice ad2 n2 cap2)).setCell ⟨g, 1, none⟩ (.bool l2.d.down)).setCell ⟨g, 2, none⟩ (.int .i64 l2.d.fuse)).setCell ⟨g, 3, none⟩ (.int .i64 l2.d.fault)).setCell ⟨g, 4, none⟩ (.int .i64 l2.size)).setCell ⟨g, 5, none⟩ (.int .u64 l2.fr)).setCell ⟨g, 6, none⟩ (.int .u64 l2.nx)).heap[g]? = some (.cells #[.slice ad2 n2 cap2, .bool l2.d.down, .int .i64 l2.d.fuse, .int .i64 l2.d.fault, .int .i64 l2.size, .int .u64 l2.fr, .int .u64 l2.nx, .bool q.l.broken, u, .int .i64 q.most] 139 (0, 0)) := heap_setCell_same _ g 6 _ 139 _ h5
  have h7 : ((((((((w.setCell ⟨g, 0, none⟩ (.slice ad2 n2 cap2)).setCell ⟨g, 1, none⟩ (.bool l2.d.down)).setCell ⟨g, 2, none⟩ (.int .i64 l2.d.fuse)).setCell ⟨g, 3, none⟩ (.int .i64 l2.d.fault)).setCell ⟨g, 4, none⟩ (.int .i64 l2.size)).setCell ⟨g, 5, none⟩ (.int .u64 l2.fr)).setCell ⟨g, 6, none⟩ (.int .u64 l2.nx)).setCell ⟨g, 7, none⟩ (.bool l2.broken)).heap[g]? = some (.cells #[.slice ad2 n2 cap2, .bool l2.d.down, .int .i64 l2.d.fuse, .int .i64 l2.d.fault, .int .i64 l2.size, .int .u64 l2.fr, .int .u64 l2.nx, .bool l2.broken, u, .int .i64 q.most] 139 (0, 0)) := heap_setCell_same _ g 7 _ 139 _ h6
  refine ⟨⟨h7, ⟨⟨((Inp.set (Inp.set (Inp.set (Inp.set (Inp.set (Inp.set (Inp.set (Inp.set hl.d.i hg) hg) hg) hg) hg) hg) hg) hg)).mono (by simp [World.setCell]), hl.d.fit, hl.d.u0, hl.d.u1, hl.d.f0, hl.d.f1⟩, hl.s0, hl.s1, hl.f0, hl.f1, hl.n0, hl.n1⟩, hg, (ERow.set_far (ERow.set_far (ERow.set_far (ERow.set_far (ERow.set_far (ERow.set_far (ERow.set_far (ERow.set_far h.row _ h.uo) _ h.uo) _ h.uo) _ h.uo) _ h.uo) _ h.uo) _ h.uo) _ h.uo), h.uo, hu, fun b e => by have := hv b e; simpa [World.setCell] using this, hvb, h.bg, h.fit, h.m⟩, (kd_set (kd_set (kd_set (kd_set (kd_set (kd_set (kd_set (kd_set (kd_refl g w) _) _) _) _) _) _) _) _)⟩

set_option maxHeartbeats 8000000 in
/-- write -/
theorem write_any (w : World) (base g : Nat) (ad : Option Addr) (n cap : Nat) (u : Value) (q : Q) (data : ByteArray) (hds : data.size ≤ 9223372036854775807) (h : QAt w base g ad n cap u q) (hR : LRight q.l) (hbr : q.l.broken = false) (hT : Tabs w) (hw : 5 < w.heap.size) :
    Calls Tryz.prog 79 #[.pointer (some ⟨g, 0, none⟩), .string data] w fun e w' => Ends (appM q.l data).2 (.tuple #[]) e ∧ ∃ ad2 n2 cap2, QAt w' base g ad2 n2 cap2 u ⟨(appM q.l data).1, q.es, q.most⟩ ∧ Kq g u w w' := by
  have H := Lib.hid h
  have HT := Lib.hid hT
  have hR' := hR
  have HR := Lib.hid hR
  obtain ⟨d0, d1, d2, d3, d4, d5, d6, d7, d8, d9⟩ := box10 h.h
  have hlg := h.lt
  obtain ⟨⟨⟨fs, down, fuse, fault⟩, size, fr, nx, broken⟩, es, most⟩ := q
  simp only at hbr
  subst hbr
  have hnum : Num fuse ∧ Num fault := ⟨⟨h.l.d.u0, h.l.d.u1⟩, ⟨h.l.d.f0, h.l.d.f1⟩⟩
  have hF := app_facts (l := ⟨⟨fs, down, fuse, fault⟩, size, fr, nx, false⟩) (d := data) hR' hnum.1 hnum.2
  obtain ⟨⟨⟨⟨gs, dn, fu, fa⟩, sz, fr2, nx2, br2⟩, c⟩, hr⟩ : ∃ r, appM ⟨⟨fs, down, fuse, fault⟩, size, fr, nx, false⟩ data = r := ⟨_, rfl⟩
  rw [hr] at hF ⊢
  have Hr := Lib.hid hr
  have HF := Lib.hid hF
  clear h hT hR hR' hr hF
  go_enter Tryz.func79, Tryz.ntmps79
  go_wp2_with fail
  refine (append_is3 Hr.out w ad n cap HR.out rfl hds H.out.l HT.out hw).mono ?_
  rintro e w1 ⟨ad2, n2, cap2, rfl, hd, ho, hb1⟩
  have Hb1 := Lib.hid (Kq.of_below (g := g) (u := u) hb1)
  have hq1 := H.out.under hb1
  have hl2 : LIn w1 ad2 n2 cap2 ⟨⟨gs, dn, fu, fa⟩, sz, fr2, nx2, br2⟩ := lin_of hd HF.out.R (by have h1 := HF.out.fr; have h2 := H.out.l.f0; simp only at h1 h2 ⊢; omega)
  have hX := QAt.log hq1 hl2 (fun e => by have := (ho _ e).1; omega) (fun b e e2 => by have h1 := (ho _ e).1; have h2 := (H.out.ul b e2).2; omega) (fun b e => (ho b e).2.lt) (fun b e => by have h1 := (ho _ e).1; have h2 := H.out.bg; have h3 := H.out.lt; omega)
  simp only at hX
  clear hd ho hb1 hl2 d0 d1 d2 d3 d4 d5 d6 d7 d8 d9 hlg hnum
  have HX0 := Lib.hid hq1
  obtain ⟨e0, e1, e2, e3, e4, e5, e6, e7, e8, e9⟩ := box10 hq1.h
  obtain ⟨z0, z1, z2, z3, z4, z5, z6, z7, z8, z9⟩ := frz10 hq1.h
  have hlg1 := hq1.lt
  have HX := Lib.hid hX.1
  have HK := Lib.hid (Kq.trans (u1 := u) Hb1.out (Kq.of_box hX.2) (fun b e => .inl e))
  clear hX
  go_upto_region 2 with (fail)
  obtain ⟨X, hXe⟩ : ∃ X, X = ((((((((w1.setCell ⟨g, 0, none⟩ (.slice ad2 n2 cap2)).setCell ⟨g, 1, none⟩ (.bool dn)).setCell ⟨g, 2, none⟩ (.int .i64 fu)).setCell ⟨g, 3, none⟩ (.int .i64 fa)).setCell ⟨g, 4, none⟩ (.int .i64 sz)).setCell ⟨g, 5, none⟩ (.int .u64 fr2)).setCell ⟨g, 6, none⟩ (.int .u64 nx2)).setCell ⟨g, 7, none⟩ (.bool br2)) := ⟨_, rfl⟩
  rw [← hXe]
  have HQX := Lib.hid (show QAt X base g ad2 n2 cap2 u ⟨⟨⟨gs, dn, fu, fa⟩, sz, fr2, nx2, br2⟩, es, most⟩ from by rw [hXe]; exact HX.out)
  have HKX := Lib.hid (show Kq g u w X from by rw [hXe]; exact HK.out)
  clear hXe
  by_cases hc : c = 0
  · subst hc
    go_wp2_with fail
    refine (on_ok X).mono ?_
    rintro e w3 ⟨rfl, rfl⟩
    go_wp2
    go_end0
    exact ⟨.inl ⟨rfl, rfl⟩, ad2, n2, cap2, HQX.out, HKX.out⟩
  · have hc2 : (c == 0) = false := by simp [hc]
    have Hc := Lib.hid hc
    clear hc
    go_wp2_with fail
    refine (on_no c hc2 X).mono ?_
    rintro e w3 ⟨rfl, rfl⟩
    go_wp2
    exact ⟨rfl, .inr ⟨Hc.out, rfl⟩, ad2, n2, cap2, HQX.out, HKX.out⟩

set_option maxHeartbeats 8000000 in
/-- drop -/
theorem drop_any2 (w : World) (base g : Nat) (ad : Option Addr) (n cap : Nat) (u : Value) (q : Q) (s : Int) (hs0 : 0 ≤ s) (hs1 : s ≤ 18446744073709551615) (h : QAt w base g ad n cap u q) (hR : LRight q.l) (hbr : q.l.broken = false) (hT : Tabs w) (hw : 5 < w.heap.size) :
    Calls Tryz.prog 85 #[.pointer (some ⟨g, 0, none⟩), .int .u64 s] w fun e w' => Ends (cutM q.l s).2 (.tuple #[]) e ∧ ∃ ad2 n2 cap2, QAt w' base g ad2 n2 cap2 u ⟨(cutM q.l s).1, q.es, q.most⟩ ∧ Kq g u w w' := by
  have H := Lib.hid h
  have HT := Lib.hid hT
  have hR' := hR
  have HR := Lib.hid hR
  obtain ⟨d0, d1, d2, d3, d4, d5, d6, d7, d8, d9⟩ := box10 h.h
  have hlg := h.lt
  obtain ⟨⟨⟨fs, down, fuse, fault⟩, size, fr, nx, broken⟩, es, most⟩ := q
  simp only at hbr
  subst hbr
  have hnum : Num fuse ∧ Num fault := ⟨⟨h.l.d.u0, h.l.d.u1⟩, ⟨h.l.d.f0, h.l.d.f1⟩⟩
  have hF := cut_facts (l := ⟨⟨fs, down, fuse, fault⟩, size, fr, nx, false⟩) (q := s) hR'.1 hnum.1 hnum.2
  have hn : n ≤ 1000 := by have h1 := h.l.d.i.1; have h2 := hR'.1.1; simp only at h1 h2; omega
  have hch : chM (fun l => cutM l s) ⟨⟨fs, down, fuse, fault⟩, size, fr, nx, false⟩ = cutM ⟨⟨fs, down, fuse, fault⟩, size, fr, nx, false⟩ s := by unfold chM; rw [if_neg (by simp)]
  obtain ⟨⟨⟨⟨gs, dn, fu, fa⟩, sz, fr2, nx2, br2⟩, c⟩, hr⟩ : ∃ r, cutM ⟨⟨fs, down, fuse, fault⟩, size, fr, nx, false⟩ s = r := ⟨_, rfl⟩
  rw [hr] at hF hch ⊢
  have Hch := Lib.hid hch
  have HF := Lib.hid hF
  clear h hT hR hR' hr hF hch
  go_enter Tryz.func85, Tryz.ntmps85
  go_wp2_with fail
  refine (drop_any w ad n cap ⟨⟨fs, down, fuse, fault⟩, size, fr, nx, false⟩ s hs0 hs1 H.out.l hn HT.out hw).mono ?_
  rintro e w1 ⟨hb1, ⟨hno, _⟩ | ⟨_, ad2, n2, cap2, rfl, hd, ho⟩⟩
  · exact absurd HR.out hno
  rw [Hch.out] at hd ⊢
  have Hb1 := Lib.hid (Kq.of_below (g := g) (u := u) hb1)
  have hq1 := H.out.under hb1
  have hl2 : LIn w1 ad2 n2 cap2 ⟨⟨gs, dn, fu, fa⟩, sz, fr2, nx2, br2⟩ := by
    have h1 := HF.out.sz
    have h2 := HF.out.nx
    have h3 := HF.out.fr
    have h4 := H.out.l.f0
    have h5 := H.out.l.n0
    obtain ⟨_, h6, h7, h8⟩ := HR.out
    simp only at h1 h2 h3 h4 h5 h6 h7 h8
    exact ⟨hd, by simp only; omega, by simp only; omega, by simp only; omega, by simp only; omega, by simp only; omega, by simp only; omega⟩
  have hX := QAt.log hq1 hl2 (fun e => by have := (ho _ e).1; omega) (fun b e e2 => by have h1 := (ho _ e).1; have h2 := (H.out.ul b e2).2; omega) (fun b e => (ho b e).2.lt) (fun b e => by have h1 := (ho _ e).1; have h2 := H.out.bg; have h3 := H.out.lt; omega)
  simp only at hX
  clear hd ho hb1 hl2 d0 d1 d2 d3 d4 d5 d6 d7 d8 d9 hlg hnum
  have HX0 := Lib.hid hq1
  obtain ⟨e0, e1, e2, e3, e4, e5, e6, e7, e8, e9⟩ := box10 hq1.h
  obtain ⟨z0, z1, z2, z3, z4, z5, z6, z7, z8, z9⟩ := frz10 hq1.h
  have hlg1 := hq1.lt
  have HX := Lib.hid hX.1
  have HK := Lib.hid (Kq.trans (u1 := u) Hb1.out (Kq.of_box hX.2) (fun b e => .inl e))
  clear hX
  go_upto_region 2 with (fail)
  obtain ⟨X, hXe⟩ : ∃ X, X = ((((((((w1.setCell ⟨g, 0, none⟩ (.slice ad2 n2 cap2)).setCell ⟨g, 1, none⟩ (.bool dn)).setCell ⟨g, 2, none⟩ (.int .i64 fu)).setCell ⟨g, 3, none⟩ (.int .i64 fa)).setCell ⟨g, 4, none⟩ (.int .i64 sz)).setCell ⟨g, 5, none⟩ (.int .u64 fr2)).setCell ⟨g, 6, none⟩ (.int .u64 nx2)).setCell ⟨g, 7, none⟩ (.bool br2)) := ⟨_, rfl⟩
  rw [← hXe]
  have HQX := Lib.hid (show QAt X base g ad2 n2 cap2 u ⟨⟨⟨gs, dn, fu, fa⟩, sz, fr2, nx2, br2⟩, es, most⟩ from by rw [hXe]; exact HX.out)
  have HKX := Lib.hid (show Kq g u w X from by rw [hXe]; exact HK.out)
  clear hXe
  by_cases hc : c = 0
  · subst hc
    go_wp2_with fail
    refine (on_ok X).mono ?_
    rintro e w3 ⟨rfl, rfl⟩
    go_wp2
    go_end0
    exact ⟨.inl ⟨rfl, rfl⟩, ad2, n2, cap2, HQX.out, HKX.out⟩
  · have hc2 : (c == 0) = false := by simp [hc]
    have Hc := Lib.hid hc
    clear hc
    go_wp2_with fail
    refine (on_no c hc2 X).mono ?_
    rintro e w3 ⟨rfl, rfl⟩
    go_wp2
    exact ⟨rfl, .inr ⟨Hc.out, rfl⟩, ad2, n2, cap2, HQX.out, HKX.out⟩

theorem qfirst_any (w : World) (base g : Nat) (ad : Option Addr) (n cap : Nat) (u : Value) (q : Q) (h : QAt w base g ad n cap u q) (h64 : q.es.length ≤ 2000) :
    Calls Tryz.prog 86 #[.pointer (some ⟨g, 0, none⟩)] w fun e w' => e = .returned (.int .u64 (firstM2 q.l q.es)) ∧ w = w' := by
  obtain ⟨adu, capu, hu, hE⟩ := EIn.of_row h.row
  subst hu
  obtain ⟨d0, d1, d2, d3, d4, d5, d6, d7, d8, d9⟩ := box10 h.h
  have hlg := h.lt
  have hn := hE.1
  obtain ⟨l, es, most⟩ := q
  cases es with
  | nil =>
    clear h hE
    go_enter Tryz.func86, Tryz.ntmps86
    go_wp2
    go_ret
    exact ⟨rfl, rfl⟩
  | cons e t =>
    obtain ⟨g1, o1, hadu, hg1, hc1⟩ := hE.2.2.2 (by simp)
    obtain ⟨q0, q1, q2⟩ := hc1 0 e rfl
    subst hadu
    simp only [Nat.zero_mul, Nat.add_zero] at q0 q1 q2
    obtain ⟨M, hM⟩ : ∃ M, (e :: t).length = M := ⟨_, rfl⟩
    have hz2 : 0 < M := by rw [← hM]; simp
    have hz : (((M : Nat) : Int) == 0) = false := by simp; omega
    have hz1 : (0 : Int) < (M : Int) := by omega
    simp only at d8
    rw [hM] at d8
    clear h hE hc1 hM hn
    go_enter Tryz.func86, Tryz.ntmps86
    go_wp2
    go_ret
    exact ⟨rfl, rfl⟩
end Go.Proofs.YtkhmdofeonlnpaaGreatDoor

/- QUEUE: THE WALK OVER put. -/
namespace Go.Proofs.YtkhmdofeonlnpaaGreatDoor
open Go.RowKit
set_option maxRecDepth 100000
set_option linter.unusedVariables false
set_option linter.unusedSimpArgs false

abbrev ecells (e : E) : Array Value := #[.int .u64 (e.seq : Int), .string e.data, .bool e.leased]
theorem app_entry (X : World) (base : Nat) (v : Value) (l : List E) (s : E) (hb : base ≤ X.heap.size) (hrow : ERow X base v l) (hn : l.length ≤ 2000) :
    ∃ v' w', (Builtin.append_ #[28, 28] 28 #[v, .slice (some ⟨X.heap.size, 0, none⟩) 1 1]).run Tryz.prog (X.alloc (.cells (ecells s) 39)) = .ok v' w' ∧ ERow w' base v' (l ++ [s]) ∧ (X.alloc (.cells (ecells s) 39)).grownBy w' v.ownBlock ∧ (v'.ownBlock = v.ownBlock ∨ ∃ b, v'.ownBlock = some b ∧ X.heap.size + 1 ≤ b) := by
  obtain ⟨i0, hi, hz0, hz1, hz2⟩ := info_parts Tryz.info39
  have hblk := blk_new X (.cells (ecells s) 39)
  have hcell : ∀ j u, (ec s)[j]? = some u → (X.alloc (.cells (ecells s) 39)).cell? ((⟨X.heap.size, 0, none⟩ : Addr).add j) = some u := fun j u hj => by
    have h0 := cell_of_row _ X.heap.size j _ 39 (0, 0) hblk
    rw [Addr.add_lit, Nat.zero_add, h0]
    simpa [ec] using hj
  obtain ⟨v', w', hr, ho, hg, _, hob⟩ := run_append_own_at (P := Tryz.prog) (X.alloc (.cells (ecells s) 39)) base 28 28 39 i0 _ 3 32 Tryz.underlying28 hi hz0 hz1 hz2 rfl (by decide) v l.length _ (World.ownsRow.alloc hrow _) ⟨X.heap.size, 0, none⟩ 1 1 (ec s) (by simp [ec]) hcell (fun u hu => by
    simp only [ec, List.mem_cons, List.not_mem_nil, or_false] at hu
    rcases hu with rfl | rfl | rfl <;> rfl) (by simp [maxLen]; omega) (by omega) (by simp; omega)
  refine ⟨v', w', hr, ?_, hg, ?_⟩
  · refine ERow.of_own (n := l.length + 1) ?_
    rw [List.flatMap_append, List.flatMap_singleton]
    exact ho
  · rcases hob with e | e
    · exact .inl e
    · exact .inr ⟨_, e, by simp⟩
/-- other entries are stored in a queue's box -/
theorem QAt.ents {X w' : World} {base g : Nat} {ad : Option Addr} {n cap : Nat} {u : Value} {q : Q} (h : QAt X base g ad n cap u q) (hg : X.grownBy w' u.ownBlock) {u' : Value} {es' : List E} (hrow : ERow w' base u' es') (ho : OwnOr X u u') (hfit : ∀ e ∈ es', EFit e) :
    QAt (w'.setCell ⟨g, 8, none⟩ u') base g ad n cap u' ⟨q.l, es', q.most⟩ ∧ Kq g u X (w'.setCell ⟨g, 8, none⟩ u') := by
  have hgl := h.lt
  have hbox : w'.heap[g]? = some (.cells (q.cells (.slice ad n cap) u) 139 (0, 0)) := (hg.block g hgl (fun e => h.uo e.symm)).trans h.h
  have hug : u'.ownBlock ≠ some g := fun e => by
    rcases ho g e with q1 | q1
    · exact h.uo q1
    · omega
  refine ⟨⟨heap_setCell_same w' g 8 _ 139 _ hbox, ⟨⟨((h.l.d.i.same (w' := w') (fun b e => hg.block b (h.vl b e) (fun e2 => h.vu b e e2.symm))).set h.vo).mono (by simp [World.setCell]; exact hg.size), h.l.d.fit, h.l.d.u0, h.l.d.u1, h.l.d.f0, h.l.d.f1⟩, h.l.s0, h.l.s1, h.l.f0, h.l.f1, h.l.n0, h.l.n1⟩, h.vo, hrow.set_far _ hug, hug, fun b e e2 => ?_, fun b e => ?_, h.vb, h.bg, hfit, h.m⟩, ?_⟩
  · have := h.vl b e
    rcases ho b e2 with q1 | q1
    · exact h.vu b e q1
    · omega
  · have := h.vl b e
    have := hg.size
    simp [World.setCell]; omega
  · exact ⟨hg.os, hg.tape, hg.output, by simp [World.setCell]; exact hg.size, fun k hk h1 h2 => (Below.heap_setCell w' ⟨g, 8, none⟩ u' k (by simp only; exact h1)).trans (hg.block k hk (fun e => h2 e.symm))⟩

set_option maxHeartbeats 8000000 in
theorem put_any (w : World) (base g : Nat) (ad : Option Addr) (n cap : Nat) (u : Value) (q : Q) (data : ByteArray) (hds : data.size ≤ 9223372036854775000) (h : QAt w base g ad n cap u q) (h64 : q.es.length ≤ 1999) (hR : LRight q.l) (hbr : q.l.broken = false) (hT : Tabs w) (hw : 5 < w.heap.size) (hbase : base ≤ w.heap.size) :
    Calls Tryz.prog 34 #[.pointer (some ⟨g, 0, none⟩), .string data] w fun e w' => Ends (putM q data).2.2 (.int .u64 ((putM q data).2.1.seq : Int)) e ∧ Left w base g u (putM q data).1 w' := by
  have hd : Below w.heap.size w w.drew := (Below.refl _ w).drew
  have H0 := h.under hd
  have H := Lib.hid H0
  have Hd := Lib.hid hd
  have HR := Lib.hid hR
  have Hbr := Lib.hid hbr
  have HT := Lib.hid (hT.under hd)
  obtain ⟨adu, capu, hu, hE⟩ := EIn.of_row h.row
  subst hu
  clear hE
  obtain ⟨N, hN⟩ : ∃ N, q.es.length = N := ⟨_, rfl⟩
  have hm0 := h.m
  rw [hN] at h H H0 h64 ⊢
  have HN := Lib.hid hN
  obtain ⟨d0, d1, d2, d3, d4, d5, d6, d7, d8, d9⟩ := box10 H0.h
  have hlg := H0.lt
  obtain ⟨X, hX⟩ : ∃ X, w.drew = X := ⟨_, rfl⟩
  rw [hX] at H Hd HT d0 d1 d2 d3 d4 d5 d6 d7 d8 d9 hlg
  have hXw : 5 < X.heap.size := by rw [← hX]; exact hw
  have HbX := Lib.hid (show base ≤ X.heap.size by rw [← hX]; exact hbase)
  have hnx0 := h.l.n0
  have hnx1 := h.l.n1
  obtain ⟨M, hM⟩ : ∃ M, q.most = M := ⟨_, rfl⟩
  rw [hM] at d9 hm0
  have HM := Lib.hid hM
  obtain ⟨m0, m1⟩ := hm0
  clear h H0 hd hN hR hbr hT hM
  by_cases hm : M ≤ (N : Int)
  · have hfull : putM q data = (q, zE, 8) := by unfold putM; rw [if_pos (by rw [HM.out, HN.out]; exact hm)]
    have Hm := Lib.hid hfull
    have hdec : decide ((N : Int) < M) = false := by simp; omega
    have hdec2 : ¬ (N : Int) < M := by omega
    clear hfull hm
    go_enter Tryz.func34, Tryz.ntmps34
    go_upto_region 1 with (fail)
    refine wp_region_any (by kernel_rfl) ?_
    change wpAny _ _ _ _ _ _ _ w.drew
    rw [hX]
    clear hX
    refine wpAny_take (i := 0) (v := ?va1) rfl (by kernel_rfl) (by kernel_rfl) (by kernel_rfl) (fun _ _ _ h => h) (Or.inl ⟨by kernel_rfl, ?ha1⟩) ?ra1
    case ha1 => (intro w; go_simp; first | done | (with_reducible rfl))
    refine wpAny_take (i := 1) (v := ?va2) rfl (by kernel_rfl) (by kernel_rfl) (by kernel_rfl) (fun _ _ _ h => h) (Or.inl ⟨by kernel_rfl, ?ha2⟩) ?ra2
    case ha2 => (intro w; go_simp; first | done | (with_reducible rfl))
    refine wpAny_take (i := 2) (v := ?va3) rfl (by kernel_rfl) (by kernel_rfl) (by kernel_rfl) (fun _ _ _ h => h) (Or.inl ⟨by kernel_rfl, ?ha3⟩) ?ra3
    case ha3 => (intro w; go_simp; first | done | (with_reducible rfl))
    refine wpAny_take (i := 3) (v := ?va4) rfl (by kernel_rfl) (by kernel_rfl) (by kernel_rfl) (fun _ _ _ h => h) (Or.inl ⟨by kernel_rfl, ?ha4⟩) ?ra4
    case ha4 => (intro w; go_simp; first | done | (with_reducible rfl))
    refine wpAny_take (i := 6) (v := ?va5) rfl (by kernel_rfl) (by kernel_rfl) (by kernel_rfl) (fun _ _ _ h => h) (Or.inl ⟨by kernel_rfl, ?ha5⟩) ?ra5
    case ha5 => (intro w; go_simp; first | done | (with_reducible rfl))
    refine wpAny_take (i := 7) (v := ?va6) rfl (by kernel_rfl) (by kernel_rfl) (by kernel_rfl) (fun _ _ _ h => h) (Or.inl ⟨by kernel_rfl, ?ha6⟩) ?ra6
    case ha6 => (intro w; go_simp; first | done | (with_reducible rfl))
    refine wpAny_take (i := 8) (v := ?va7) rfl (by kernel_rfl) (by kernel_rfl) (by kernel_rfl) (fun _ _ _ h => h) (Or.inl ⟨by kernel_rfl, ?ha7⟩) ?ra7
    case ha7 => (intro w; go_simp; first | done | (with_reducible rfl))
    refine wpAny_take (i := 9) (v := ?va8) rfl (by kernel_rfl) (by kernel_rfl) (by kernel_rfl) (fun _ _ _ h => h) (Or.inl ⟨by kernel_rfl, ?ha8⟩) ?ra8
    case ha8 => (intro w; go_simp; first | done | (with_reducible rfl))
    refine wpAny_ready (rs := [4, 10]) (by kernel_rfl) (by simp) ?_
    refine AllReady.cons rfl (fun K hK => ?_) ?_
    · skip
      go_simp
      refine hK _ _ ?_
      clear hK K
      refine wpAny_take (i := 5) (v := ?va9) rfl (by kernel_rfl) (by kernel_rfl) (by kernel_rfl) (fun _ _ _ h => h) (Or.inl ⟨by kernel_rfl, ?ha9⟩) ?ra9
      case ha9 => (intro w; go_simp; first | done | (with_reducible rfl))
      refine wpAny_ready (rs := [10]) (by kernel_rfl) (by simp) ?_
      refine AllReady.cons rfl (fun K hK => ?_) AllReady.nil
      go_simp
      refine hK _ _ ?_
      clear hK K
      refine wpAny_take (i := 11) (v := ?va10) rfl (by kernel_rfl) (by kernel_rfl) (by kernel_rfl) (fun _ _ _ h => h) (Or.inl ⟨by kernel_rfl, ?ha10⟩) ?ra10
      case ha10 => (intro w; go_simp; first | done | (with_reducible rfl))
      refine wpAny_ready (rs := [12]) (by kernel_rfl) (by simp) ?_
      refine AllReady.cons rfl (fun K hK => ?_) AllReady.nil
      go_simp
      go_at_call 78
      refine (unless_no 8 X).mono ?_
      rintro en w1 ⟨rfl, rfl⟩
      refine ⟨rfl, ?_⟩
      rw [Hm.out]
      exact ⟨.inr ⟨by simp, rfl⟩, ad, n, cap, _, H.out, Kq.of_below Hd.out, fun b e => .inl e⟩
    refine AllReady.cons rfl (fun K hK => ?_) AllReady.nil
    go_simp
    refine hK _ _ ?_
    clear hK K
    refine wpAny_ready (rs := [4]) (by kernel_rfl) (by simp) ?_
    refine AllReady.cons rfl (fun K hK => ?_) AllReady.nil
    go_simp
    refine hK _ _ ?_
    clear hK K
    refine wpAny_take (i := 5) (v := ?va11) rfl (by kernel_rfl) (by kernel_rfl) (by kernel_rfl) (fun _ _ _ h => h) (Or.inl ⟨by kernel_rfl, ?ha11⟩) ?ra11
    case ha11 => (intro w; go_simp; first | done | (with_reducible rfl))
    refine wpAny_take (i := 11) (v := ?va12) rfl (by kernel_rfl) (by kernel_rfl) (by kernel_rfl) (fun _ _ _ h => h) (Or.inl ⟨by kernel_rfl, ?ha12⟩) ?ra12
    case ha12 => (intro w; go_simp; first | done | (with_reducible rfl))
    refine wpAny_ready (rs := [12]) (by kernel_rfl) (by simp) ?_
    refine AllReady.cons rfl (fun K hK => ?_) AllReady.nil
    go_simp
    go_at_call 78
    refine (unless_no 8 X).mono ?_
    rintro en w1 ⟨rfl, rfl⟩
    refine ⟨rfl, ?_⟩
    rw [Hm.out]
    exact ⟨.inr ⟨by simp, rfl⟩, ad, n, cap, _, H.out, Kq.of_below Hd.out, fun b e => .inl e⟩
  · have hdec : decide ((N : Int) < M) = true := by simp; omega
    have hdec2 : (N : Int) < M := by omega
    have Hm := Lib.hid hm
    clear hm
    go_enter Tryz.func34, Tryz.ntmps34
    go_upto_region 1 with (fail)
    refine wp_region_any (by kernel_rfl) ?_
    change wpAny _ _ _ _ _ _ _ w.drew
    rw [hX]
    clear hX
    refine wpAny_take (i := 0) (v := ?vb1) rfl (by kernel_rfl) (by kernel_rfl) (by kernel_rfl) (fun _ _ _ h => h) (Or.inl ⟨by kernel_rfl, ?hb1⟩) ?rb1
    case hb1 => (intro w; go_simp; first | done | (with_reducible rfl))
    refine wpAny_take (i := 1) (v := ?vb2) rfl (by kernel_rfl) (by kernel_rfl) (by kernel_rfl) (fun _ _ _ h => h) (Or.inl ⟨by kernel_rfl, ?hb2⟩) ?rb2
    case hb2 => (intro w; go_simp; first | done | (with_reducible rfl))
    refine wpAny_take (i := 2) (v := ?vb3) rfl (by kernel_rfl) (by kernel_rfl) (by kernel_rfl) (fun _ _ _ h => h) (Or.inl ⟨by kernel_rfl, ?hb3⟩) ?rb3
    case hb3 => (intro w; go_simp; first | done | (with_reducible rfl))
    refine wpAny_take (i := 3) (v := ?vb4) rfl (by kernel_rfl) (by kernel_rfl) (by kernel_rfl) (fun _ _ _ h => h) (Or.inl ⟨by kernel_rfl, ?hb4⟩) ?rb4
    case hb4 => (intro w; go_simp; first | done | (with_reducible rfl))
    refine wpAny_take (i := 6) (v := ?vb5) rfl (by kernel_rfl) (by kernel_rfl) (by kernel_rfl) (fun _ _ _ h => h) (Or.inl ⟨by kernel_rfl, ?hb5⟩) ?rb5
    case hb5 => (intro w; go_simp; first | done | (with_reducible rfl))
    refine wpAny_take (i := 7) (v := ?vb6) rfl (by kernel_rfl) (by kernel_rfl) (by kernel_rfl) (fun _ _ _ h => h) (Or.inl ⟨by kernel_rfl, ?hb6⟩) ?rb6
    case hb6 => (intro w; go_simp; first | done | (with_reducible rfl))
    refine wpAny_take (i := 8) (v := ?vb7) rfl (by kernel_rfl) (by kernel_rfl) (by kernel_rfl) (fun _ _ _ h => h) (Or.inl ⟨by kernel_rfl, ?hb7⟩) ?rb7
    case hb7 => (intro w; go_simp; first | done | (with_reducible rfl))
    refine wpAny_take (i := 9) (v := ?vb8) rfl (by kernel_rfl) (by kernel_rfl) (by kernel_rfl) (fun _ _ _ h => h) (Or.inl ⟨by kernel_rfl, ?hb8⟩) ?rb8
    case hb8 => (intro w; go_simp; first | done | (with_reducible rfl))
    refine wpAny_ready (rs := [4, 10]) (by kernel_rfl) (by simp) ?_
    refine AllReady.cons rfl (fun K hK => ?_) ?_
    · skip
      go_simp
      refine hK _ _ ?_
      clear hK K
      refine wpAny_take (i := 5) (v := ?vb9) rfl (by kernel_rfl) (by kernel_rfl) (by kernel_rfl) (fun _ _ _ h => h) (Or.inl ⟨by kernel_rfl, ?hb9⟩) ?rb9
      case hb9 => (intro w; go_simp; first | done | (with_reducible rfl))
      refine wpAny_ready (rs := [10]) (by kernel_rfl) (by simp) ?_
      refine AllReady.cons rfl (fun K hK => ?_) AllReady.nil
      go_simp
      refine hK _ _ ?_
      clear hK K
      refine wpAny_take (i := 11) (v := ?vb10) rfl (by kernel_rfl) (by kernel_rfl) (by kernel_rfl) (fun _ _ _ h => h) (Or.inl ⟨by kernel_rfl, ?hb10⟩) ?rb10
      case hb10 => (intro w; go_simp; first | done | (with_reducible rfl))
      refine wpAny_ready (rs := [12]) (by kernel_rfl) (by simp) ?_
      refine AllReady.cons rfl (fun K hK => ?_) AllReady.nil
      go_simp
      go_at_call 78
      refine (unless_yes 8 X).mono ?_
      rintro en w1 ⟨rfl, rfl⟩
      refine hK _ _ ?_
      clear hK K
      refine wpAny_done (by kernel_rfl) ?_ _
      try go_simp
      by_cases hl : data.size ≤ 65535
      rotate_left
      · have hlI : ¬ (data.size : Int) ≤ 65535 := by omega
        have hlong : putM q data = (q, zE, 4) := by unfold putM; rw [if_neg (by rw [HM.out, HN.out]; have := Hm.out; omega), if_pos (by omega)]
        have Hlong := Lib.hid hlong
        clear hlong hl
        go_wp2_with fail
        refine (unless_no 4 X).mono ?_
        rintro en w1 ⟨rfl, rfl⟩
        go_wp2
        rw [Hlong.out]
        exact ⟨rfl, .inr ⟨by simp, rfl⟩, ad, n, cap, _, H.out, Kq.of_below Hd.out, fun b e => .inl e⟩
      have hlI : (data.size : Int) ≤ 65535 := by omega
      have hcat : ¬ 9223372036854775807 < 1 + data.size := by omega
      go_wp2_with fail
      refine (unless_yes 4 X).mono ?_
      rintro en w1 ⟨rfl, rfl⟩
      have hpm : putM q data = if (appM q.l (putB data)).2 = 0 then (⟨(appM q.l (putB data)).1, q.es ++ [⟨q.l.nx.toNat, data, false⟩], q.most⟩, ⟨q.l.nx.toNat, ⟨#[]⟩, false⟩, 0) else (⟨(appM q.l (putB data)).1, q.es, q.most⟩, zE, (appM q.l (putB data)).2) := by
        unfold putM
        rw [if_neg (by rw [HM.out, HN.out]; have := Hm.out; omega), if_neg (by omega)]
      have Hpm := Lib.hid hpm
      clear hpm hl
      have hps := put_size data
      have hps2 : (putB data).size ≤ 9223372036854775807 := by omega
      clear hps
      go_wp2_with fail
      refine (write_any X base g ad n cap _ q (putB data) hps2 H.out HR.out Hbr.out HT.out hXw).mono ?_
      rintro en w1 ⟨hen, ad2, n2, cap2, hq1, hk1⟩
      obtain ⟨⟨l2, c⟩, hr⟩ : ∃ r, appM q.l (putB data) = r := ⟨_, rfl⟩
      rw [hr] at hen hq1
      have Hr := Lib.hid hr
      have H1 := Lib.hid hq1
      have HK1 := Lib.hid ((Kq.of_below Hd.out).trans hk1 (fun b e => .inl e))
      clear hr hq1 hk1 d0 d1 d2 d3 d4 d5 d6 d7 d8 d9 hlg
      rcases hen with ⟨hc, rfl⟩ | ⟨hc, rfl⟩
      rotate_left
      · have Hc := Lib.hid hc
        clear hc
        go_wp2
        have hfin : putM q data = (⟨l2, q.es, q.most⟩, zE, c) := by rw [Hpm.out, Hr.out, if_neg Hc.out]
        rw [hfin]
        exact ⟨rfl, .inr ⟨Hc.out, rfl⟩, ad2, n2, cap2, _, H1.out, HK1.out, fun b e => .inl e⟩
      have hc : c = 0 := hc
      subst hc
      have hfin : putM q data = (⟨l2, q.es ++ [⟨q.l.nx.toNat, data, false⟩], q.most⟩, ⟨q.l.nx.toNat, ⟨#[]⟩, false⟩, 0) := by rw [Hpm.out, Hr.out, if_pos rfl]
      have Hfin := Lib.hid hfin
      clear hfin
      obtain ⟨d0, d1, d2, d3, d4, d5, d6, d7, d8, d9⟩ := box10 H1.out.h
      obtain ⟨z0, z1, z2, z3, z4, z5, z6, z7, z8, z9⟩ := frz10 H1.out.h
      have hlg := H1.out.lt
      have hb1 : base ≤ w1.heap.size := by have := H1.out.bg; omega
      obtain ⟨u3, w3, hr3, hrow3, hg3, ho3⟩ := app_entry w1 base (.slice adu N capu) q.es ⟨q.l.nx.toNat, data, false⟩ hb1 H1.out.row (by rw [HN.out]; omega)
      have hnxn : ((q.l.nx.toNat : Nat) : Int) = q.l.nx := by omega
      rw [show (ecells ⟨q.l.nx.toNat, data, false⟩) = #[.int .u64 q.l.nx, .string data, .bool false] from by show #[Value.int .u64 ((q.l.nx.toNat : Nat) : Int), _, _] = _; rw [hnxn]] at hr3
      have hbw : Below w1.heap.size w1 (w1.alloc (.cells (ecells ⟨q.l.nx.toNat, data, false⟩) 39)) := (Below.refl _ w1).alloc (Nat.le_refl _) _
      have Hfit := Lib.hid (show ∀ e ∈ q.es ++ [(⟨q.l.nx.toNat, data, false⟩ : E)], EFit e from fun e he => by
        rcases List.mem_append.1 he with q1 | q1
        · exact H1.out.fit e q1
        · rw [List.mem_singleton] at q1
          subst q1
          exact ⟨by show q.l.nx.toNat < _; omega, by show data.size ≤ _; omega⟩)
      have hX2 := QAt.ents (H1.out.under hbw) hg3 hrow3 (fun b e => by
        rcases ho3 with q1 | ⟨b2, q1, q2⟩
        · exact .inl (by rw [← q1]; exact e)
        · exact .inr (by rw [q1] at e; injection e with e; simp; omega)) Hfit.out
      obtain ⟨ad3, cap3, hv3⟩ := hrow3.form
      obtain ⟨L3, hL3⟩ : ∃ L3, (q.es ++ [(⟨q.l.nx.toNat, data, false⟩ : E)]).length = L3 := ⟨_, rfl⟩
      rw [hL3] at hv3
      subst hv3
      have hbx3 : w3.heap[g]? = some (.cells (Q.cells ⟨l2, q.es, q.most⟩ (.slice ad2 n2 cap2) (.slice adu N capu)) 139 (0, 0)) := (hg3.block g (by simp; omega) (fun e => H1.out.uo e.symm)).trans ((hbw.block g hlg).trans H1.out.h)
      have HX2 := Lib.hid hX2.1
      have HK2 := Lib.hid ((HK1.out.trans (Kq.of_below (g := g) (u := .slice adu N capu) hbw) (fun b e => .inl e)).trans hX2.2 (fun b e => .inl e))
      have HO3 := Lib.hid (show OwnOr w (.slice adu N capu) (.slice ad3 L3 cap3) from fun b e => by
        rcases ho3 with q1 | ⟨b2, q1, q2⟩
        · exact .inl (by rw [← q1]; exact e)
        · have h5 := HK1.out.size
          exact .inr (by rw [q1] at e; injection e with e; omega))
      have Hr3 := Lib.hid hr3
      clear hX2 hrow3 hg3 ho3 hL3 hbw hr3
      obtain ⟨_, _, _, _, _, _, _, _, e8, _⟩ := box10 hbx3
      obtain ⟨_, _, _, _, _, _, _, _, y8, _⟩ := frz10 hbx3
      have hlg3 := (Array.getElem?_eq_some_iff.1 hbx3).1
      clear hbx3
      go_wp2_with (at_builtin; refine wp_app rfl (.tmp 38) (.tmp 42) (.slice adu N capu) (.slice (some ⟨w1.heap.size, 0, none⟩) 1 1) (by rfl) (by rfl) rfl Hr3.out ?_)
      go_ret
      rw [Hfin.out]
      exact ⟨.inl ⟨rfl, by simp only [hnxn]; rfl⟩, ad2, n2, cap2, _, HX2.out, HK2.out, HO3.out⟩
    refine AllReady.cons rfl (fun K hK => ?_) AllReady.nil
    go_simp
    refine hK _ _ ?_
    clear hK K
    refine wpAny_ready (rs := [4]) (by kernel_rfl) (by simp) ?_
    refine AllReady.cons rfl (fun K hK => ?_) AllReady.nil
    go_simp
    refine hK _ _ ?_
    clear hK K
    refine wpAny_take (i := 5) (v := ?vb11) rfl (by kernel_rfl) (by kernel_rfl) (by kernel_rfl) (fun _ _ _ h => h) (Or.inl ⟨by kernel_rfl, ?hb11⟩) ?rb11
    case hb11 => (intro w; go_simp; first | done | (with_reducible rfl))
    refine wpAny_take (i := 11) (v := ?vb12) rfl (by kernel_rfl) (by kernel_rfl) (by kernel_rfl) (fun _ _ _ h => h) (Or.inl ⟨by kernel_rfl, ?hb12⟩) ?rb12
    case hb12 => (intro w; go_simp; first | done | (with_reducible rfl))
    refine wpAny_ready (rs := [12]) (by kernel_rfl) (by simp) ?_
    refine AllReady.cons rfl (fun K hK => ?_) AllReady.nil
    go_simp
    go_at_call 78
    refine (unless_yes 8 X).mono ?_
    rintro en w1 ⟨rfl, rfl⟩
    refine hK _ _ ?_
    clear hK K
    refine wpAny_done (by kernel_rfl) ?_ _
    try go_simp
    by_cases hl : data.size ≤ 65535
    rotate_left
    · have hlI : ¬ (data.size : Int) ≤ 65535 := by omega
      have hlong : putM q data = (q, zE, 4) := by unfold putM; rw [if_neg (by rw [HM.out, HN.out]; have := Hm.out; omega), if_pos (by omega)]
      have Hlong := Lib.hid hlong
      clear hlong hl
      go_wp2_with fail
      refine (unless_no 4 X).mono ?_
      rintro en w1 ⟨rfl, rfl⟩
      go_wp2
      rw [Hlong.out]
      exact ⟨rfl, .inr ⟨by simp, rfl⟩, ad, n, cap, _, H.out, Kq.of_below Hd.out, fun b e => .inl e⟩
    have hlI : (data.size : Int) ≤ 65535 := by omega
    have hcat : ¬ 9223372036854775807 < 1 + data.size := by omega
    go_wp2_with fail
    refine (unless_yes 4 X).mono ?_
    rintro en w1 ⟨rfl, rfl⟩
    have hpm : putM q data = if (appM q.l (putB data)).2 = 0 then (⟨(appM q.l (putB data)).1, q.es ++ [⟨q.l.nx.toNat, data, false⟩], q.most⟩, ⟨q.l.nx.toNat, ⟨#[]⟩, false⟩, 0) else (⟨(appM q.l (putB data)).1, q.es, q.most⟩, zE, (appM q.l (putB data)).2) := by
      unfold putM
      rw [if_neg (by rw [HM.out, HN.out]; have := Hm.out; omega), if_neg (by omega)]
    have Hpm := Lib.hid hpm
    clear hpm hl
    have hps := put_size data
    have hps2 : (putB data).size ≤ 9223372036854775807 := by omega
    clear hps
    go_wp2_with fail
    refine (write_any X base g ad n cap _ q (putB data) hps2 H.out HR.out Hbr.out HT.out hXw).mono ?_
    rintro en w1 ⟨hen, ad2, n2, cap2, hq1, hk1⟩
    obtain ⟨⟨l2, c⟩, hr⟩ : ∃ r, appM q.l (putB data) = r := ⟨_, rfl⟩
    rw [hr] at hen hq1
    have Hr := Lib.hid hr
    have H1 := Lib.hid hq1
    have HK1 := Lib.hid ((Kq.of_below Hd.out).trans hk1 (fun b e => .inl e))
    clear hr hq1 hk1 d0 d1 d2 d3 d4 d5 d6 d7 d8 d9 hlg
    rcases hen with ⟨hc, rfl⟩ | ⟨hc, rfl⟩
    rotate_left
    · have Hc := Lib.hid hc
      clear hc
      go_wp2
      have hfin : putM q data = (⟨l2, q.es, q.most⟩, zE, c) := by rw [Hpm.out, Hr.out, if_neg Hc.out]
      rw [hfin]
      exact ⟨rfl, .inr ⟨Hc.out, rfl⟩, ad2, n2, cap2, _, H1.out, HK1.out, fun b e => .inl e⟩
    have hc : c = 0 := hc
    subst hc
    have hfin : putM q data = (⟨l2, q.es ++ [⟨q.l.nx.toNat, data, false⟩], q.most⟩, ⟨q.l.nx.toNat, ⟨#[]⟩, false⟩, 0) := by rw [Hpm.out, Hr.out, if_pos rfl]
    have Hfin := Lib.hid hfin
    clear hfin
    obtain ⟨d0, d1, d2, d3, d4, d5, d6, d7, d8, d9⟩ := box10 H1.out.h
    obtain ⟨z0, z1, z2, z3, z4, z5, z6, z7, z8, z9⟩ := frz10 H1.out.h
    have hlg := H1.out.lt
    have hb1 : base ≤ w1.heap.size := by have := H1.out.bg; omega
    obtain ⟨u3, w3, hr3, hrow3, hg3, ho3⟩ := app_entry w1 base (.slice adu N capu) q.es ⟨q.l.nx.toNat, data, false⟩ hb1 H1.out.row (by rw [HN.out]; omega)
    have hnxn : ((q.l.nx.toNat : Nat) : Int) = q.l.nx := by omega
    rw [show (ecells ⟨q.l.nx.toNat, data, false⟩) = #[.int .u64 q.l.nx, .string data, .bool false] from by show #[Value.int .u64 ((q.l.nx.toNat : Nat) : Int), _, _] = _; rw [hnxn]] at hr3
    have hbw : Below w1.heap.size w1 (w1.alloc (.cells (ecells ⟨q.l.nx.toNat, data, false⟩) 39)) := (Below.refl _ w1).alloc (Nat.le_refl _) _
    have Hfit := Lib.hid (show ∀ e ∈ q.es ++ [(⟨q.l.nx.toNat, data, false⟩ : E)], EFit e from fun e he => by
      rcases List.mem_append.1 he with q1 | q1
      · exact H1.out.fit e q1
      · rw [List.mem_singleton] at q1
        subst q1
        exact ⟨by show q.l.nx.toNat < _; omega, by show data.size ≤ _; omega⟩)
    have hX2 := QAt.ents (H1.out.under hbw) hg3 hrow3 (fun b e => by
      rcases ho3 with q1 | ⟨b2, q1, q2⟩
      · exact .inl (by rw [← q1]; exact e)
      · exact .inr (by rw [q1] at e; injection e with e; simp; omega)) Hfit.out
    obtain ⟨ad3, cap3, hv3⟩ := hrow3.form
    obtain ⟨L3, hL3⟩ : ∃ L3, (q.es ++ [(⟨q.l.nx.toNat, data, false⟩ : E)]).length = L3 := ⟨_, rfl⟩
    rw [hL3] at hv3
    subst hv3
    have hbx3 : w3.heap[g]? = some (.cells (Q.cells ⟨l2, q.es, q.most⟩ (.slice ad2 n2 cap2) (.slice adu N capu)) 139 (0, 0)) := (hg3.block g (by simp; omega) (fun e => H1.out.uo e.symm)).trans ((hbw.block g hlg).trans H1.out.h)
    have HX2 := Lib.hid hX2.1
    have HK2 := Lib.hid ((HK1.out.trans (Kq.of_below (g := g) (u := .slice adu N capu) hbw) (fun b e => .inl e)).trans hX2.2 (fun b e => .inl e))
    have HO3 := Lib.hid (show OwnOr w (.slice adu N capu) (.slice ad3 L3 cap3) from fun b e => by
      rcases ho3 with q1 | ⟨b2, q1, q2⟩
      · exact .inl (by rw [← q1]; exact e)
      · have h5 := HK1.out.size
        exact .inr (by rw [q1] at e; injection e with e; omega))
    have Hr3 := Lib.hid hr3
    clear hX2 hrow3 hg3 ho3 hL3 hbw hr3
    obtain ⟨_, _, _, _, _, _, _, _, e8, _⟩ := box10 hbx3
    obtain ⟨_, _, _, _, _, _, _, _, y8, _⟩ := frz10 hbx3
    have hlg3 := (Array.getElem?_eq_some_iff.1 hbx3).1
    clear hbx3
    go_wp2_with (at_builtin; refine wp_app rfl (.tmp 38) (.tmp 42) (.slice adu N capu) (.slice (some ⟨w1.heap.size, 0, none⟩) 1 1) (by rfl) (by rfl) rfl Hr3.out ?_)
    go_ret
    rw [Hfin.out]
    exact ⟨.inl ⟨rfl, by simp only [hnxn]; rfl⟩, ad2, n2, cap2, _, HX2.out, HK2.out, HO3.out⟩
end Go.Proofs.YtkhmdofeonlnpaaGreatDoor
