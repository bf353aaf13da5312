/- SEGMENT: the package's variables, from what the row lists; texts that came in. -/
import Derived.Test.YtcefhcailhediaaDoorGas
import Derived.Test.YtcefhcailhediaaDoorRows
import Derived.Lib.LaidU8
import Derived.LaidLaws
import Derived.SliceStrings
import Derived.LaidMore
namespace Go.Proofs.YtcefhcailhediaaDoor
open Go.RowKit Go.ChangeShapes Go.WideShapes Go.Deep Joins
set_option linter.unusedVariables false
set_option linter.unusedSimpArgs false
set_option maxRecDepth 100000
def nibZ : List Int := (List.range 16).map fun i => (nib i : Int)
theorem nib_data : (Rows.laid_penstock_segment_nibbles : DataW Unit) = Lib.tabData .u32 nibZ := by rfl
theorem iface_at {w : World} {name tn : String} {g : Nat} {d : DataW Unit} (hg : Tryd.prog.globalNamed name = some g) (hty : (Tryd.prog.globals[g]?).map (·.type) = some 124) (h : Lib.VarReads Tryd.prog w name (.iface tn d)) : ∃ te pe, w.cell? ⟨g, 0, none⟩ = some (.iface te pe) := by
  obtain ⟨g', t, cs, fuel, p, h1, h2, h3, h4⟩ := h
  obtain rfl := Option.some.inj (hg.symm.trans h1)
  obtain rfl := Option.some.inj (hty.symm.trans h2)
  obtain ⟨_, u, v, e, _, _⟩ := iface_of_trod (ms := #[("Error", 170)]) (by kernel_rfl) h4
  refine ⟨u, v, ?_⟩
  have h5 : w.var? Tryd.prog name = some ([Value.iface u v]).toArray := by rw [h3, ← e]
  have := World.var?_cell hg h5 0
  simpa using this
theorem seg_tabs {w : World} {l : List (String × DataW Unit)} (h : laidMet Tryd.prog l w) (h0 : ("penstock/segment.nibbles", Rows.laid_penstock_segment_nibbles) ∈ l)
    (h2 : ("strconv.ErrSyntax", Rows.laid_strconv_ErrSyntax) ∈ l) (h3 : ("strconv.ErrRange", Rows.laid_strconv_ErrRange) ∈ l) : Tabs w := by
  have e2 := iface_at (g := 2) (by kernel_rfl) (by kernel_rfl) (Lib.laidMet.reads h h2)
  have e3 := iface_at (g := 3) (by kernel_rfl) (by kernel_rfl) (Lib.laidMet.reads h h3)
  refine ⟨fun i hi => ?_, e2, e3, ?_⟩
  · obtain ⟨g', t, cs, fuel, p, h1, h2, h3, h4⟩ := Lib.laidMet.reads h h0
    have hg : Tryd.prog.globalNamed "penstock/segment.nibbles" = some 0 := by kernel_rfl
    have hty : (Tryd.prog.globals[0]?).map (·.type) = some 141 := by kernel_rfl
    obtain rfl := Option.some.inj (hg.symm.trans h1)
    obtain rfl := Option.some.inj (hty.symm.trans h2)
    rw [nib_data] at h4
    have e := Lib.cells_of_tab (n := 16) (e := 135) (by kernel_rfl) (by kernel_rfl) (by kernel_rfl) (by kernel_rfl) h4
    have ht : Lib.TabIs Tryd.prog w "penstock/segment.nibbles" .u32 nibZ := by unfold Lib.TabIs; rw [h3, ← e]
    have := ht.cell hg i (by simp [nibZ]; exact hi)
    rw [this]
    simp [nibZ, hi]
  · obtain ⟨te, pe, e⟩ := e3
    exact World.block_lt_of_cell? w _ e
section
variable {H : Type} {enc : TypeId × Value → H} {w : World}
theorem open_texts {base : Nat} {v : Value} {d : DataW H} {p : List MemPlace} (hv : Value.okWide Tryd.prog w .any base 22 v) (h : DataW.Trod enc Tryd.prog w 0 (fun _ => true) true 22 v d p) :
    ∃ ad n cap ss, v = .slice ad n cap ∧ n = ss.length ∧ Strs w w.heap.size ad ss ∧ n ≤ 9223372036854775807 ∧ ∀ s ∈ ss, s.size ≤ 9223372036854775807 := by
  obtain ⟨ad, len, cap, rfl⟩ := okWide_slice Tryd.underlying22 hv
  obtain ⟨fuel, hf⟩ := h
  rcases open_strings Tryd.underlying22 Tryd.underlying9 (by kernel_rfl) hf with ⟨hcs, _⟩ | ⟨a, len', cap', ss, hcs, _, hl, hm, hz, _, hcell, hsz⟩
  · simp [Value.cells] at hcs
    obtain ⟨rfl, rfl, rfl⟩ := hcs
    exact ⟨none, 0, 0, [], rfl, rfl, fun h => absurd rfl h, by omega, fun s hs => by cases hs⟩
  · simp [Value.cells] at hcs
    obtain ⟨rfl, rfl, rfl⟩ := hcs
    simp only [if_true] at hz
    simp only [maxLen] at hm
    refine ⟨some a, len, cap, ss.take len, rfl, by rw [List.length_take]; omega, fun hne => ?_, by omega, fun s hs => ?_⟩
    · have h0 : 0 < ss.length := by
        rcases Nat.eq_zero_or_pos ss.length with e | e
        · rw [List.eq_nil_of_length_eq_zero e] at hne; simp at hne
        · exact e
      obtain ⟨b, off, spot⟩ := a
      have hc0 := hcell 0 h0
      have hs : spot = none := by simpa [Addr.add] using World.cell?_spot hc0
      subst hs
      refine ⟨b, off, rfl, World.block_lt_of_cell? w _ hc0, fun i s hi => ?_⟩
      have h2 : ss[i]? = some s := by
        rw [List.getElem?_take] at hi
        split at hi
        · exact hi
        · cases hi
      have hil : i < ss.length := (List.getElem?_eq_some_iff.1 h2).1
      have := hcell i hil
      rw [Addr.add_lit] at this
      rw [this]
      simp [List.getD, h2]
    · have := hsz s (List.mem_of_mem_take hs)
      simpa [maxLen] using this
end
end Go.Proofs.YtcefhcailhediaaDoor

/- SEGMENT, MATHEMATICS: what was opened, opened again. -/
namespace Go.Proofs.YtcefhcailhediaaDoor
open Go.RowKit
set_option maxRecDepth 100000
set_option linter.unusedVariables false
set_option linter.unusedSimpArgs false
theorem rdF_count {fs : List F} (hR : Right fs) : (rdF fs).rs.length ≤ 16777216 := by
  have h1 := rdM_count (filesM fs) (fromM (filesM fs)) (fun s hs => (hR.ok _ (filesM_mem hs).1).2.1)
  have h2 := filesM_len fs
  have h3 := hR.1
  show (rdM _ _).rs.length ≤ _
  omega
theorem rdF_len (fs : List F) : (rdF fs).nx = fromM (filesM fs) + (rdF fs).rs.length := rdM_len _ _
theorem rdF_bd (fs : List F) : (rdF fs).nx ≤ 4611686018427387904 := rdM_bd _ _ (fromM_bd _)
theorem rdF_seq {fs : List F} {i : Nat} {r : Rec} (h : (rdF fs).rs[i]? = some r) : r.seq = fromM (filesM fs) + i := rdM_seq _ _ i r h
theorem openM_err {d : D} {size : Int} {l : L} {rs : List Rec} {c : Int} (h : openM d size = (l, rs, c)) (hc : c ≠ 0) : rs = [] := by
  unfold openM at h
  split at h
  · injection h with _ h; injection h with h _; exact h.symm
  split at h
  · injection h with _ h; injection h with h _; exact h.symm
  split at h
  · injection h with _ h; injection h with h _; exact h.symm
  split at h
  · injection h with _ h; injection h with _ h; exact absurd h.symm hc
  · injection h with _ h; injection h with h _; exact h.symm
/-- what an opening that was OK left -/
structure Opened (l : L) (rs : List Rec) (size : Int) : Prop where
  again : openM l.d size = (l, rs, 0)
  R : LRight l
  br : l.broken = false
  dn : l.d.down = false
  rd : (rdF l.d.files).rs = rs
  len : rs.length ≤ 16777216
  sz : l.size = size
  md : mendM l.d.files = []
  seq : ∃ n : Nat, l.fr = (n : Int) ∧ l.nx = ((n + rs.length : Nat) : Int) ∧ n + rs.length ≤ 4611686018427387904 ∧ ∀ i r, rs[i]? = some r → r.seq = n + i
theorem opened {d : D} {size : Int} {l : L} {rs : List Rec} (h : openM d size = (l, rs, 0)) : Opened l rs size := by
  have hR : Right d.files := Classical.byContradiction fun hn => by
    unfold openM at h; rw [if_pos hn] at h; injection h with _ h; injection h with _ h; cases h
  have hs : 1 ≤ size ∧ size ≤ 262144 := Classical.byContradiction fun hn => by
    unfold openM at h; rw [if_neg (fun q => q hR), if_pos hn] at h; injection h with _ h; injection h with _ h; cases h
  have hd : d.down = false := by
    cases e : d.down with
    | false => rfl
    | true => unfold openM at h; rw [if_neg (fun q => q hR), if_neg (fun q => q hs), if_pos e] at h; injection h with _ h; injection h with _ h; cases h
  obtain ⟨r, _, hM, ho⟩ := open_ok hR hs hd
  rw [h] at ho
  by_cases hc : r.2 = 0
  · rw [if_pos hc] at ho
    obtain ⟨m1, m2, m3, m4⟩ := hM.ok hc
    have e1 := congrArg Prod.fst ho
    have e2 : rs = (rdF d.files).rs := congrArg (fun x => x.2.1) ho
    simp only at e1
    have hsz := hM.sz
    obtain ⟨⟨⟨gs, dn, fu, fa⟩, sz, fr, nx, br⟩, c⟩ := r
    simp only at m1 m2 m3 m4 hsz e1
    have q1 := hM.R
    have q2 := hM.rs
    have q3 := hM.nx
    have q4 := hM.fm
    simp only at q1 q2 q3 q4
    subst e1 m2 m3 hsz e2
    have hlen := rdF_len d.files
    have hbd := rdF_bd d.files
    refine ⟨?_, ⟨q1, hs, ?_, ?_⟩, rfl, rfl, q2, rdF_count hR, rfl, m1, ⟨fromM (filesM d.files), rfl, ?_, by omega, fun i r hi => rdF_seq hi⟩⟩
    · unfold openM
      rw [if_neg (fun q => q q1), if_neg (fun q => q hs), if_neg (by simp)]
      simp only [m1, doS, if_pos, q2, q3, q4]
    · show (fromM (filesM d.files) : Int) ≤ ((rdF d.files).nx : Int)
      omega
    · show ((rdF d.files).nx : Int) ≤ 4611686018427387904
      omega
    · show ((rdF d.files).nx : Int) = _
      rw [hlen]
  · rw [if_neg hc] at ho
    exact absurd (congrArg (fun x => x.2.2) ho).symm hc
end Go.Proofs.YtcefhcailhediaaDoor

/- SEGMENT: what is carried through a law's walk. -/
namespace Go.Proofs.YtcefhcailhediaaDoor
open Go.RowKit
set_option maxRecDepth 100000
set_option linter.unusedVariables false
set_option linter.unusedSimpArgs false
/-- a block's cells -/
def Blk (w : World) (q : Nat) (cs : Array Value) (t : TypeId) : Prop := w.heap[q]? = some (.cells cs t (0, 0))
theorem Blk.under {w w' : World} {q : Nat} {cs : Array Value} {t : TypeId} (h : Blk w q cs t) (hb : Below w.heap.size w w') : Blk w' q cs t := (hb.block _ (Array.getElem?_eq_some_iff.1 h).1).trans h
theorem Blk.lt {w : World} {q : Nat} {cs : Array Value} {t : TypeId} (h : Blk w q cs t) : q < w.heap.size := (Array.getElem?_eq_some_iff.1 h).1
/-- texts, numbers, records that lie in memory -/
def StrsW (w : World) (ad : Option Addr) (ss : List ByteArray) : Prop := Strs w w.heap.size ad ss
theorem StrsW.under {w w' : World} {ad : Option Addr} {ss : List ByteArray} (h : StrsW w ad ss) (hb : Below w.heap.size w w') : StrsW w' ad ss :=
  fun hne => by obtain ⟨g, off, e, hg, hi⟩ := (Strs.keep h hb) hne; exact ⟨g, off, e, Nat.lt_of_lt_of_le hg hb.size, hi⟩
def IntsW (w : World) (ad : Option Addr) (ks : List Int) : Prop := Ints w w.heap.size ad ks
theorem IntsW.under {w w' : World} {ad : Option Addr} {ks : List Int} (h : IntsW w ad ks) (hb : Below w.heap.size w w') : IntsW w' ad ks :=
  ⟨h.1, fun hne => by obtain ⟨g, off, e, hg, hi⟩ := (Ints.keep h hb).2 hne; exact ⟨g, off, e, Nat.lt_of_lt_of_le hg hb.size, hi⟩⟩
/-- the heap has the package's variables -/
def Big (w : World) : Prop := 3 < w.heap.size
theorem Big.under {w w' : World} (h : Big w) (hb : Below w.heap.size w w') : Big w' := Nat.lt_of_lt_of_le h hb.size
/-- the disk of an opened log, the log itself -/
theorem lin_of {w : World} {ad : Option Addr} {n cap : Nat} {l : L} (hd : DIn w ad n cap l.d.fuse l.d.fault l.d.files) (hR : LRight l) (hf : 0 ≤ l.fr) : LIn w ad n cap l := by
  obtain ⟨h1, h2, h3, h4⟩ := hR
  exact ⟨hd, by omega, by omega, hf, by omega, by omega, by omega⟩
theorem records_is (w : World) (ad : Option Addr) (n cap : Nat) (l : L) {rs : List Rec} (h : LIn w ad n cap l) (hR : LRight l) (hb : l.broken = false) (hd : l.d.down = false) (hrs : (rdF l.d.files).rs = rs) (hT : Tabs w) (hw : 3 < w.heap.size) :
    Calls Tryd.prog 16 #[.agg (l.cells (.slice ad n cap))] w fun e w' => ∃ ad2 cap2, e = .returned (.tuple #[.slice ad2 rs.length cap2, .int .i64 0]) ∧ RAt w' w'.heap.size ad2 rs ∧ Below w.heap.size w w' := by
  subst hrs
  refine (records_any w ad n cap l h hT hw).mono fun e w' hP => ?_
  rcases hP with ⟨hb2, ⟨hno, _⟩ | ⟨_, _, _, ad2, cap2, he, hat⟩⟩
  · exact absurd ⟨hR, hb, hd⟩ hno
  · exact ⟨ad2, cap2, he, hat, hb2⟩
end Go.Proofs.YtcefhcailhediaaDoor

/- SEGMENT, MATHEMATICS: what is dropped are the first records. -/
namespace Go.Proofs.YtcefhcailhediaaDoor
open Go.RowKit
set_option maxRecDepth 100000
set_option linter.unusedVariables false
set_option linter.unusedSimpArgs false
theorem eff_rm_sub {fs : List F} {s : SF} : ∀ f ∈ eff fs (rmS s), f ∈ fs := by
  intro f hf
  unfold eff at hf
  rw [if_neg (by first | decide | (simp only [rmS]; decide))] at hf
  cases hq : found fs (rmS s).name with
  | none => rw [hq] at hf; exact hf
  | some g =>
    rw [hq] at hf
    simp only at hf
    rw [if_neg (by first | decide | (simp only [rmS]; decide)), if_neg (by first | decide | (simp only [rmS]; decide)), if_neg (by first | decide | (simp only [rmS]; decide))] at hf
    exact (rem_sub fs _).subset hf
theorem kk_rm {fs : List F} {fr : Nat} {rs : List Rec} {s0 s1 : SF} {t : List SF} (hk : KK fs fr rs) (hl : filesM fs = s0 :: s1 :: t) :
    ref fs (rmS s0) = 0 ∧ filesM (eff fs (rmS s0)) = s1 :: t ∧ ∃ m, s1.n = fr + m ∧ m ≤ rs.length ∧ KK (eff fs (rmS s0)) (fr + m) (rs.drop m) := by
  obtain ⟨h1, h2⟩ := files_rm hk.R (l := []) (r := s1 :: t) hl
  replace h2 : filesM (eff fs (rmS s0)) = s1 :: t := h2
  refine ⟨h1, h2, ?_⟩
  have hrd := hk.rd
  rw [hl] at hrd
  have hfm := hk.fm
  rw [hl] at hfm
  have e0 : s0.n = fr := hfm
  by_cases ht : sumL (framesL s0.f.data fr) < s0.f.data.size
  · rw [rdM_torn e0 ht] at hrd; cases congrArg RD.cut hrd
  rw [rdM_on e0 ht] at hrd
  have e1 : s1.n = fr + (framesL s0.f.data fr).length := Classical.byContradiction fun hn => by
    rw [rdM_end hn] at hrd; cases congrArg RD.rest hrd
  have q1 := congrArg RD.rs hrd
  have q2 := congrArg RD.nx hrd
  have q3 := congrArg RD.cut hrd
  have q4 := congrArg RD.rest hrd
  simp only at q1 q2 q3 q4
  obtain ⟨r, hr⟩ : ∃ r, rdM (fr + (framesL s0.f.data fr).length) (s1 :: t) = r := ⟨_, rfl⟩
  have hlen := rdM_len (s1 :: t) (fr + (framesL s0.f.data fr).length)
  rw [hr] at q1 q2 q3 q4 hlen
  obtain ⟨r1, r2, r3, r4⟩ := r
  simp only at q1 q2 q3 q4 hlen
  subst q3 q4
  have hdrop : rs.drop (framesL s0.f.data fr).length = r1 := by rw [← q1]; simp
  refine ⟨(framesL s0.f.data fr).length, e1, by rw [← q1, List.length_append]; omega, ?_, ?_, ?_, ?_, ?_⟩
  · exact right_eff hk.R ⟨by first | decide | (simp only [rmS]; decide), by first | decide | (simp only [rmS]; decide)⟩ h1
  · exact fun f hf => hk.lg f (eff_rm_sub f hf)
  · exact fun f hf => hk.sy f (eff_rm_sub f hf)
  · rw [h2, hr, hdrop, hlen]
  · rw [h2]; exact e1
theorem drop_run : ∀ (l : List SF) (fs : List F) (fr : Nat) (rs : List Rec) (size f0 nx q : Int), filesM fs = l → KK fs fr rs →
    ∃ fs2 gone, doS ⟨⟨fs, false, -1, -1⟩, size, f0, nx, false⟩ ((l.take (cutN l q)).map rmS) = (⟨⟨fs2, false, -1, -1⟩, size, f0, nx, false⟩, 0) ∧ KK fs2 (fr + gone) (rs.drop gone) ∧
      gone ≤ rs.length ∧ (gone = 0 ∨ ((fr + gone : Nat) : Int) ≤ q) ∧ ((l = [] ∧ gone = 0) ∨ ∃ s, l[cutN l q]? = some s ∧ s.n = fr + gone)
  | [], fs, fr, rs, size, f0, nx, q, hl, hk => ⟨fs, 0, by simp [cutN, doS], by simpa using hk, Nat.zero_le _, .inl rfl, .inl ⟨rfl, rfl⟩⟩
  | [s], fs, fr, rs, size, f0, nx, q, hl, hk => ⟨fs, 0, by simp [cutN, doS], by simpa using hk, Nat.zero_le _, .inl rfl, .inr ⟨s, by simp [cutN], by have := hk.fm; rw [hl] at this; exact this⟩⟩
  | s0 :: s1 :: t, fs, fr, rs, size, f0, nx, q, hl, hk => by
    by_cases hq : (s1.n : Int) ≤ q
    · obtain ⟨h1, h2, m, h3, h4, h5⟩ := kk_rm hk hl
      have hcut : cutN (s0 :: s1 :: t) q = cutN (s1 :: t) q + 1 := by rw [cutN, if_pos hq]
      obtain ⟨fs2, g, i1, i2, i3, i4, i5⟩ := drop_run (s1 :: t) (eff fs (rmS s0)) (fr + m) (rs.drop m) size f0 nx q h2 h5
      refine ⟨fs2, m + g, ?_, ?_, ?_, ?_, ?_⟩
      · rw [hcut, List.take_succ_cons, List.map_cons]
        unfold doS
        rcases doo_mend (d := ⟨fs, false, -1, -1⟩) hk.R rfl (m := rmS s0) (.inr rfl) h1 with ⟨c, _⟩ | ⟨_, c, _⟩ | ⟨_, _, e⟩
        · simp only at c; omega
        · simp only at c; omega
        · rw [e, if_pos rfl]
          exact i1
      · rw [List.drop_drop] at i2
        rw [← Nat.add_assoc]; exact i2
      · rw [List.length_drop] at i3; omega
      · right
        rcases i4 with e | e
        · rw [e, Nat.add_zero, ← h3]; exact hq
        · rw [← Nat.add_assoc]; exact e
      · right
        rcases i5 with ⟨e, _⟩ | ⟨s, e1, e2⟩
        · cases e
        · exact ⟨s, by rw [hcut, List.getElem?_cons_succ]; exact e1, by omega⟩
    · have hcut : cutN (s0 :: s1 :: t) q = 0 := by rw [cutN, if_neg hq]
      refine ⟨fs, 0, by rw [hcut]; simp [doS], by simpa using hk, Nat.zero_le _, .inl rfl, .inr ⟨s0, by rw [hcut]; rfl, ?_⟩⟩
      have := hk.fm
      rw [hl] at this
      exact this
/-- a log of records from a number on -/
abbrev klf (fs : List F) (fr : Nat) (rs : List Rec) (size nx : Int) : L := ⟨⟨fs, false, -1, -1⟩, size, (fr : Int), nx, false⟩
theorem drop_kk {fs : List F} {rs : List Rec} {size q : Int} (hk : KK fs 1 rs) :
    ∃ fs2 gone, dropM (kl fs rs (-1) (-1) size) q = (⟨⟨fs2, false, -1, -1⟩, size, ((1 + gone : Nat) : Int), ((1 + rs.length : Nat) : Int), false⟩, 0) ∧ KK fs2 (1 + gone) (rs.drop gone) ∧ gone ≤ rs.length ∧ (gone = 0 ∨ (gone : Int) < q) := by
  obtain ⟨fs2, g, h1, h2, h3, h4, h5⟩ := drop_run (filesM fs) fs 1 rs size 1 ((1 + rs.length : Nat) : Int) q rfl hk
  refine ⟨fs2, g, ?_, h2, h3, by omega⟩
  have hd : dropS (kl fs rs (-1) (-1) size) q = (⟨⟨fs2, false, -1, -1⟩, size, 1, ((1 + rs.length : Nat) : Int), false⟩, 0) := h1
  unfold dropM
  rw [hd, if_pos rfl]
  rcases h5 with ⟨e, rfl⟩ | ⟨s, e1, e2⟩
  · have : (filesM (kl fs rs (-1) (-1) size).d.files)[cutN (filesM (kl fs rs (-1) (-1) size).d.files) q]? = none := by
      show (filesM fs)[cutN (filesM fs) q]? = none
      rw [e]; rfl
    rw [this]
    rfl
  · have : (filesM (kl fs rs (-1) (-1) size).d.files)[cutN (filesM (kl fs rs (-1) (-1) size).d.files) q]? = some s := e1
    rw [this]
    simp only [e2]
theorem open_klf {fs : List F} {fr : Nat} {rs : List Rec} {size : Int} (h : KK fs fr rs) (hs : 1 ≤ size ∧ size ≤ 262144) : openM ⟨fs, false, -1, -1⟩ size = (klf fs fr rs size ((fr + rs.length : Nat) : Int), rs, 0) := by
  have h1 := (open_free h.R hs).1
  have h2 : mended fs = fs := by unfold mended; rw [kk_mend h]; rfl
  rw [h2, kk_rdF h, h.fm] at h1
  exact h1
end Go.Proofs.YtcefhcailhediaaDoor

/- SEGMENT: a row of records from a place on. -/
namespace Go.Proofs.YtcefhcailhediaaDoor
open Go.RowKit
set_option maxRecDepth 100000
set_option linter.unusedVariables false
set_option linter.unusedSimpArgs false
theorem RAt.from {w : World} {B : Nat} {g0 off g : Nat} {rs : List Rec} (h : RAt w B (some ⟨g0, off, none⟩) rs) : RAt w B (some ⟨g0, off + g * 2, none⟩) (rs.drop g) := fun hne => by
  have hne2 : rs ≠ [] := fun e => hne (by rw [e]; simp)
  obtain ⟨g1, o1, e, hg, hc⟩ := h hne2
  injection e with e
  injection e with e1 e2
  subst e1 e2
  refine ⟨g0, off + g * 2, rfl, hg, fun i r hi => ?_⟩
  rw [List.getElem?_drop] at hi
  obtain ⟨c0, c1⟩ := hc (g + i) r hi
  have ea : off + (g + i) * 2 = off + g * 2 + i * 2 := by omega
  rw [ea] at c0 c1
  exact ⟨c0, c1⟩
theorem slice_from {w : World} {B : Nat} {ad : Option Addr} {M cap g : Nat} {rs : List Rec} (h : RAt w B ad rs) (hl : rs.length = M) (hg : g ≤ M) (hM : M ≤ cap) :
    ∃ ad' , (∀ W, (Instr.slice 31 (.slice ad M cap) (some (.int .i64 (g : Int))) none none).run Tryd.prog W = .ok (.slice ad' (M - g) (cap - g)) W) ∧ RAt w B ad' (rs.drop g) := by
  refine ⟨if cap = g then ad else ad.map (·.add (g * 2)), fun W => ?_, ?_⟩
  · have hs : ∀ W : World, (sizeOf (Tryd.prog.elem 31)).run Tryd.prog W = .ok 2 W := fun W => by kernel_rfl
    rw [run_slice_l (P := Tryd.prog) (t := 31) (a := ad) (len := M) (cap := cap) (ht := by kernel_rfl) (kl := .i64) (l := (g : Int)) (h0 := by omega) (h1 := by omega), hs]
    simp [Result.andThen, sliced]
  · intro hne
    have hlt : g < M := by
      rcases Nat.lt_or_ge g M with e | e
      · exact e
      · exact absurd (List.drop_eq_nil_of_le (by omega)) hne
    rw [if_neg (by omega)]
    have hne2 : rs ≠ [] := fun e => hne (by rw [e]; simp)
    obtain ⟨g0, off, rfl, _⟩ := h hne2
    simp only [Option.map_some, Addr.add_lit]
    exact h.from hne
end Go.Proofs.YtcefhcailhediaaDoor

/- SEGMENT: records put behind an empty row; one more behind them. -/
namespace Go.Proofs.YtcefhcailhediaaDoor
open Go.RowKit
set_option maxRecDepth 100000
set_option linter.unusedVariables false
set_option linter.unusedSimpArgs false
theorem RAt.cells {w : World} {B g off : Nat} {rs : List Rec} (h : RAt w B (some ⟨g, off, none⟩) rs) : ∀ j u, (rcs rs)[j]? = some u → w.cell? ((⟨g, off, none⟩ : Addr).add j) = some u := fun j u hj => by
  have hl := (List.getElem?_eq_some_iff.1 hj).1
  rw [rcs_len] at hl
  have hne : rs ≠ [] := fun e => by rw [e] at hl; simp at hl
  obtain ⟨g1, o1, e, hg, hc⟩ := h hne
  injection e with e
  injection e with e1 e2
  subst e1 e2
  obtain ⟨i, hi⟩ : ∃ i, j / 2 = i := ⟨_, rfl⟩
  have hil : i < rs.length := by omega
  have hr : rs[i]? = some rs[i] := by simp [hil]
  obtain ⟨c0, c1⟩ := hc i _ hr
  have ha := rcs_at rs i _ hr
  rcases Nat.mod_two_eq_zero_or_one j with hm | hm
  · have ej : j = i * 2 + 0 := by omega
    rw [ej, ha 0 (by omega)] at hj
    simp at hj
    subst hj
    rw [Addr.add_lit, show off + j = off + i * 2 by omega]
    exact c0
  · have ej : j = i * 2 + 1 := by omega
    rw [ej, ha 1 (by omega)] at hj
    simp at hj
    subst hj
    rw [Addr.add_lit, show off + j = off + i * 2 + 1 by omega]
    exact c1
theorem rcs_one {rs : List Rec} : ∀ u ∈ rcs rs, u.oneCell' = true := fun u hu => by
  obtain ⟨r, _, hr⟩ := List.mem_flatMap.1 hu
  simp only [List.mem_cons, List.not_mem_nil, or_false] at hr
  rcases hr with rfl | rfl <;> rfl
theorem app_recs (X : World) (base : Nat) (v : Value) (hrow : X.ownsRow base 41 2 v 0 []) {ad : Option Addr} {N cap : Nat} {rs : List Rec} (h : RAt X X.heap.size ad rs) (hl : rs.length = N) (hc : ad = none → cap = 0) (hn : N ≤ 1000000000) (hb : base ≤ X.heap.size) :
    ∃ v' w', (Builtin.append_ #[31, 31] 31 #[v, .slice ad N cap]).run Tryd.prog X = .ok v' w' ∧ w'.ownsRow base 41 2 v' N (rcs rs) ∧ X.grownBy w' v.ownBlock := by
  obtain ⟨i0, hi, hz0, hz1, hz2⟩ := info_parts Tryd.info41
  cases ad with
  | none =>
    have hrs : rs = [] := Classical.byContradiction fun hne => by obtain ⟨_, _, e, _⟩ := h hne; cases e
    subst hrs
    have hN : N = 0 := hl.symm
    subst hN
    rw [hc rfl]
    exact ⟨v, X, run_append_owned_none (P := Tryd.prog) X base 31 31 41 i0 2 Tryd.underlying31 hi v 0 [] hrow, hrow, World.grownBy.refl X _⟩
  | some a =>
    have hcell : ∀ j u, (rcs rs)[j]? = some u → X.cell? (a.add j) = some u := fun j u hj => by
      have hne : rs ≠ [] := fun e => by rw [e] at hj; simp [rcs] at hj
      obtain ⟨g, off, e, _⟩ := h hne
      injection e with e
      subst e
      exact h.cells j u hj
    obtain ⟨v', w', hr, ho, hg, _, _⟩ := run_append_own_at (P := Tryd.prog) X base 31 31 41 i0 _ 2 24 Tryd.underlying31 hi hz0 hz1 hz2 rfl (by decide) v 0 [] hrow a N cap (rcs rs) (by rw [rcs_len, hl]) hcell rcs_one (by simp [maxLen]; omega) (by omega) hb
    rw [Nat.zero_add, List.nil_append] at ho
    exact ⟨v', w', hr, ho, hg⟩
theorem app_more (X : World) (base a : Nat) (v : Value) (rs : List Rec) (r : Rec) {N : Nat} (hl : rs.length = N) (hb : base ≤ X.heap.size) (hrow : X.ownsRow base 41 2 v N (rcs rs)) (hn : N ≤ 1000000000)
    (ha : X.heap[a]? = some (.cells #[.int .u64 (r.seq : Int), .string r.data] 41 (0, 0))) :
    ∃ v' w', (Builtin.append_ #[31, 31] 31 #[v, .slice (some ⟨a, 0, none⟩) 1 1]).run Tryd.prog X = .ok v' w' ∧ RRow w' base v' (rs ++ [r]) ∧ X.grownBy w' v.ownBlock := by
  obtain ⟨i0, hi, hz0, hz1, hz2⟩ := info_parts Tryd.info41
  have hcell : ∀ j u, ([Value.int .u64 (r.seq : Int), .string r.data] : List Value)[j]? = some u → X.cell? ((⟨a, 0, none⟩ : Addr).add j) = some u := fun j u hj => by
    obtain ⟨h0, h1⟩ := box2' ha
    match j, hj with
    | 0, hj => simp at hj; subst hj; exact h0
    | 1, hj => simp at hj; subst hj; exact h1
    | j + 2, hj => simp at hj
  have hone : ∀ u ∈ ([Value.int .u64 (r.seq : Int), .string r.data] : List Value), u.oneCell' = true := fun u hu => by
    simp only [List.mem_cons, List.not_mem_nil, or_false] at hu
    rcases hu with rfl | rfl <;> rfl
  obtain ⟨v', w', hr, ho, hg, _, _⟩ := run_append_own_at (P := Tryd.prog) X base 31 31 41 i0 _ 2 24 Tryd.underlying31 hi hz0 hz1 hz2 rfl (by decide) v N _ hrow ⟨a, 0, none⟩ 1 1 [.int .u64 (r.seq : Int), .string r.data] (by simp) hcell hone (by simp [maxLen]; omega) (by omega) hb
  exact ⟨v', w', hr, ⟨by rw [rcs_snoc, List.length_append, hl]; exact ho, fun e => by simp at e⟩, hg⟩
/-- an empty row -/
theorem row_empty (w : World) (base : Nat) (hb : base ≤ w.heap.size) : (w.alloc (.cells #[] 41)).ownsRow base 41 2 (.slice (some ⟨w.heap.size, 0, none⟩) 0 0) 0 [] :=
  World.ownsRow_made w #[] 0 hb (by simp [maxLen]) (by simp)
theorem row_under {w w' : World} {base n : Nat} {v : Value} {xs : List Value} (h : w.ownsRow base 41 2 v n xs) (hb : Below w.heap.size w w') : w'.ownsRow base 41 2 v n xs :=
  World.ownsRow.kept (row := none) h ⟨hb.os, hb.tape, hb.output, hb.size, fun k hk _ => hb.block k hk⟩ (by cases v.ownBlock <;> simp)
theorem RAt.low {w w' : World} {ad : Option Addr} {rs : List Rec} (h : RAt w w.heap.size ad rs) (hb : Below w.heap.size w w') : RAt w' w'.heap.size ad rs := h.under hb
end Go.Proofs.YtcefhcailhediaaDoor
