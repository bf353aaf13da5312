/- THE WALKS OVER both Names, and Texts. -/
import Derived.Test.YtcefhcailhediaaDrd
import Derived.Test.YtcefhcailhediaaPut2
namespace Go.Proofs.Ytcefhcailhediaa
open Go.RowKit
set_option linter.unusedVariables false
set_option linter.unusedSimpArgs false

/-- the slice v of the call's own has the texts ss -/
def SRow (w : World) (base : Nat) (v : Value) (ss : List ByteArray) : Prop := w.ownsRow base 9 1 v ss.length (ss.map Value.string)
/-- at ad lie the texts ss -/
def Strs (w : World) (B : Nat) (ad : Option Addr) (ss : List ByteArray) : Prop := ss ≠ [] → ∃ g off, ad = some ⟨g, off, none⟩ ∧ g < B ∧ ∀ i s, ss[i]? = some s → w.cell? ⟨g, off + i, none⟩ = some (.string s)
theorem Strs.keep {w w' : World} {B : Nat} {ad : Option Addr} {ss : List ByteArray} (h : Strs w B ad ss) (hb : Below B w w') : Strs w' B ad ss :=
  fun hne => by obtain ⟨g, off, e, hg, hi⟩ := h hne; exact ⟨g, off, e, hg, fun i k hk => (hb.cell (p := ⟨g, off + i, none⟩) hg).trans (hi i k hk)⟩
theorem Strs.mono {w : World} {B B' : Nat} {ad : Option Addr} {ss : List ByteArray} (h : Strs w B ad ss) (hb : B ≤ B') : Strs w B' ad ss :=
  fun hne => by obtain ⟨g, off, e, hg, hi⟩ := h hne; exact ⟨g, off, e, Nat.lt_of_lt_of_le hg hb, hi⟩
theorem SRow.strs {w : World} {base : Nat} {v : Value} {ss : List ByteArray} (h : SRow w base v ss) : ∃ ad cap, v = .slice ad ss.length cap ∧ Strs w w.heap.size ad ss := by
  rcases h.2 with ⟨hv, hn⟩ | ⟨g, cap, cur, hv, hbg, hg, hnc, hcm, hcs, htake⟩
  · have hx : ss = [] := List.eq_nil_of_length_eq_zero hn
    subst hx
    exact ⟨none, 0, hv, fun h => absurd rfl h⟩
  · refine ⟨some ⟨g, 0, none⟩, cap, hv, fun _ => ⟨g, 0, rfl, (Array.getElem?_eq_some_iff.1 hg).1, fun i s hs => ?_⟩⟩
    have := World.ownsRow.cells h (g := g) (by rw [hv]; rfl) i (.string s) (by simp [hs])
    rwa [show (⟨g, 0, none⟩ : Addr).add i = ⟨g, 0 + i, none⟩ by unfold Addr.add; split <;> simp_all] at this
theorem Try.info9 : (Try.prog.info? 9).map (fun i => (i.zero, i.size, i.bytes)) = some (some (.string ⟨#[]⟩), 1, 16) := by kernel_rfl
noncomputable def nmv (d : D) : List ByteArray := if upv d = 0 then d.files.map F.name else []

theorem names15_no (w : World) (ad : Option Addr) (n cap : Nat) (down : Bool) (fuse fault : Int) (fs : List F) (h : DIn w ad n cap fuse fault fs) (hR : ¬ Right fs) :
    Calls Try.prog 15 #[.agg (dcells (.slice ad n cap) down fuse fault)] w fun e w' => ∃ ad2 n2 cap2, e = .returned (.tuple #[.slice ad2 n2 cap2, .int .i64 (upv ⟨fs, down, fuse, fault⟩)]) ∧ n2 = (nmv ⟨fs, down, fuse, fault⟩).length ∧ Strs w' w'.heap.size ad2 (nmv ⟨fs, down, fuse, fault⟩) ∧ Below w.heap.size w w' := by
  have hb0 := (Below.refl w.heap.size w).alloc (Nat.le_refl _) (.cells (dcells (.slice ad n cap) down fuse fault) 24)
  have hx : Dk (w.alloc (.cells (dcells (.slice ad n cap) down fuse fault) 24)) w.heap.size 24 (.slice ad n cap) down fuse fault := blk_new w _
  have Hb0 := Lib.hid hb0
  have Hx := Lib.hid hx
  have H := Lib.hid h
  clear h hb0 hx
  have hU := upv_no (d := ⟨fs, down, fuse, fault⟩) hR
  have hN : nmv ⟨fs, down, fuse, fault⟩ = [] := by unfold nmv; rw [hU]; rfl
  rw [hN, hU]
  clear hR hN
  go_enter Try.func15, Try.ntmps15
  go_wp2_with fail
  refine (checkUp_any _ ad n cap down fuse fault fs (H.out.under Hb0.out)).mono ?_
  rw [hU]
  rintro e w1 ⟨rfl, hb1⟩
  have Hb1 := Lib.hid (Hb0.out.trans (hb1.mono Hb0.out.size))
  have hD1 := Hx.out.keep hb1 Hx.out.lt
  have HD1 := Lib.hid hD1
  obtain ⟨⟨d0, d1, d2, d3⟩, _⟩ := hD1.facts
  clear hb1 hD1
  go_wp2
  exact bodyPost_ret (v := .tuple #[.slice none 0 0, .int .i64 6]) (by simp [results, Try.results15, go_sem]) rfl ⟨_, _, _, rfl, rfl, fun h => absurd rfl h, Hb1.out⟩
theorem names15_down (w : World) (ad : Option Addr) (n cap : Nat) (down : Bool) (fuse fault : Int) (fs : List F) (h : DIn w ad n cap fuse fault fs) (hR : Right fs) (hd : down = true) :
    Calls Try.prog 15 #[.agg (dcells (.slice ad n cap) down fuse fault)] w fun e w' => ∃ ad2 n2 cap2, e = .returned (.tuple #[.slice ad2 n2 cap2, .int .i64 (upv ⟨fs, down, fuse, fault⟩)]) ∧ n2 = (nmv ⟨fs, down, fuse, fault⟩).length ∧ Strs w' w'.heap.size ad2 (nmv ⟨fs, down, fuse, fault⟩) ∧ Below w.heap.size w w' := by
  subst hd
  have hb0 := (Below.refl w.heap.size w).alloc (Nat.le_refl _) (.cells (dcells (.slice ad n cap) true fuse fault) 24)
  have hx : Dk (w.alloc (.cells (dcells (.slice ad n cap) true fuse fault) 24)) w.heap.size 24 (.slice ad n cap) true fuse fault := blk_new w _
  have Hb0 := Lib.hid hb0
  have Hx := Lib.hid hx
  have H := Lib.hid h
  clear h hb0 hx
  have hU := upv_down (d := ⟨fs, true, fuse, fault⟩) hR rfl
  have hN : nmv ⟨fs, true, fuse, fault⟩ = [] := by unfold nmv; rw [hU]; rfl
  rw [hN, hU]
  clear hR hN
  go_enter Try.func15, Try.ntmps15
  go_wp2_with fail
  refine (checkUp_any _ ad n cap true fuse fault fs (H.out.under Hb0.out)).mono ?_
  rw [hU]
  rintro e w1 ⟨rfl, hb1⟩
  have Hb1 := Lib.hid (Hb0.out.trans (hb1.mono Hb0.out.size))
  have hD1 := Hx.out.keep hb1 Hx.out.lt
  have HD1 := Lib.hid hD1
  obtain ⟨⟨d0, d1, d2, d3⟩, _⟩ := hD1.facts
  clear hb1 hD1
  go_wp2
  exact bodyPost_ret (v := .tuple #[.slice none 0 0, .int .i64 17]) (by simp [results, Try.results15, go_sem]) rfl ⟨_, _, _, rfl, rfl, fun h => absurd rfl h, Hb1.out⟩
set_option maxHeartbeats 4000000 in
theorem names15_up (w : World) (ad : Option Addr) (n cap : Nat) (down : Bool) (fuse fault : Int) (fs : List F) (h : DIn w ad n cap fuse fault fs) (hR : Right fs) (hd : down = false) :
    Calls Try.prog 15 #[.agg (dcells (.slice ad n cap) down fuse fault)] w fun e w' => ∃ ad2 n2 cap2, e = .returned (.tuple #[.slice ad2 n2 cap2, .int .i64 (upv ⟨fs, down, fuse, fault⟩)]) ∧ n2 = (nmv ⟨fs, down, fuse, fault⟩).length ∧ Strs w' w'.heap.size ad2 (nmv ⟨fs, down, fuse, fault⟩) ∧ Below w.heap.size w w' := by
  subst hd
  have hb0 := (Below.refl w.heap.size w).alloc (Nat.le_refl _) (.cells (dcells (.slice ad n cap) false fuse fault) 24)
  have hx : Dk (w.alloc (.cells (dcells (.slice ad n cap) false fuse fault) 24)) w.heap.size 24 (.slice ad n cap) false fuse fault := blk_new w _
  have Hb0 := Lib.hid hb0
  have Hx := Lib.hid hx
  have H := Lib.hid h
  clear h hb0 hx
  have hU := upv_up (d := ⟨fs, false, fuse, fault⟩) hR (by simp)
  have hN : nmv ⟨fs, false, fuse, fault⟩ = fs.map F.name := by unfold nmv; rw [hU]; rfl
  rw [hN, hU]
  obtain ⟨i0, hi0, hz0, hz1, hz2⟩ := info_parts Try.info9
  have h64 : n ≤ 64 := by have := H.out.i.1; have := hR.1; omega
  clear hR hN
  go_enter Try.func15, Try.ntmps15
  go_wp2_with fail
  refine (checkUp_any _ ad n cap false fuse fault fs (H.out.under Hb0.out)).mono ?_
  rw [hU]
  rintro e w1 ⟨rfl, hb1⟩
  have Hb1 := Lib.hid (Hb0.out.trans (hb1.mono Hb0.out.size))
  have hD1 := Hx.out.keep hb1 Hx.out.lt
  have HD1 := Lib.hid hD1
  obtain ⟨⟨d0, d1, d2, d3⟩, _⟩ := hD1.facts
  clear hb1 hD1
  go_wp2
  go_loopw [5, 16] (fun v i wr => ∃ (k : Nat), i = .int .i64 (k : Int) ∧ k ≤ n ∧ Below w.heap.size w wr ∧ SRow wr w.heap.size v ((fs.take k).map F.name)) (fun _ i _ => n - (intOf i).toNat)
  case atStart => exact ⟨0, rfl, by omega, Hb1.out, World.ownsRow_nil _ _ _ _⟩
  case round =>
    obtain ⟨k, rfl, hk, hbel, hrow⟩ := hrel
    have Hbel := Lib.hid hbel; clear hbel
    have Hrow := Lib.hid hrow; clear hrow
    by_cases hlt : k < n
    · have hfl : k < fs.length := by have := H.out.i.1; omega
      have hne : fs ≠ [] := by rintro rfl; simp at hfl
      obtain ⟨g, off, rfl, hg, hi⟩ := (H.out.i.2.2.2.keep Hbel.out) hne
      obtain ⟨f, hf⟩ : ∃ f, fs[k]? = some f := ⟨fs[k], by simp⟩
      obtain ⟨q0, q1, q2⟩ := hi k f hf
      have hkn : (k : Int) < (n : Int) := by omega
      have hk0 : (0 : Int) ≤ (k : Int) := by omega
      have Hfk := Lib.hid (show (fs.take (k + 1)).map F.name = (fs.take k).map F.name ++ [f.name] by rw [List.take_add_one, hf]; simp)
      have hlen : ((fs.take k).map F.name).length = k := by simp; omega
      have Hlen := Lib.hid hlen
      have hal := ((Below.refl wr.heap.size wr).alloc (Nat.le_refl _) (.cells (fcells f.name f.data f.syn) 46)).alloc (by simp) (.cells #[.string f.name] 9)
      have Hb2 := Lib.hid (Hbel.out.trans (hal.mono Hbel.out.size))
      have Hown := Lib.hid (World.ownsRow.alloc (World.ownsRow.alloc Hrow.out (.cells (fcells f.name f.data f.syn) 46)) (.cells #[.string f.name] 9))
      have hnews := cell_one_new (wr.alloc (.cells (fcells f.name f.data f.syn) 46)) (.string f.name) 9
      rw [show (wr.alloc (.cells (fcells f.name f.data f.syn) 46)).heap.size = wr.heap.size + 1 by simp] at hnews
      have Hnews := Lib.hid hnews
      have hsz := Hbel.out.size
      clear hi hf hal hne hnews hlen
      go_wp2_with (at_builtin; refine wpList_append_own_at _ rfl _ _ 35 rfl w.heap.size 9 i0 _ 1 16 Try.underlying35 hi0 hz0 hz1 hz2 rfl (by decide) _ _ _ rfl Hown.out ⟨wr.heap.size + 1, 0, none⟩ 1 1 [.string f.name] rfl rfl Hnews.out (fun u hu => by simp at hu; subst hu; rfl) (by simp [maxLen]; omega) (by simp; omega) (by simp; omega) ?_)
      intro v' w' h1 h2 _ _
      have Hb3 := Lib.hid (Hb2.out.grown h2 Hb2.out.size (fun k hk => (World.ownsRow.lt Hown.out k hk).1))
      have Hr3 := Lib.hid (show SRow w' w.heap.size v' ((fs.take (k + 1)).map F.name) by
        rw [Hfk.out]; unfold SRow; simpa using h1)
      clear h1 h2
      go_wp2
      go_roundw
      case rel => exact ⟨k + 1, by go_num, by omega, Hb3.out, Hr3.out⟩
      case measure => simp [intOf]; omega
    · have hrr := Hrow.out
      rw [List.take_of_length_le (by have := H.out.i.1; omega)] at hrr
      obtain ⟨ad2, cap2, rfl, hs⟩ := hrr.strs
      have Hs := Lib.hid hs
      clear hrr hs
      go_wp2
      exact bodyPost_ret (v := .tuple #[.slice ad2 (fs.map F.name).length cap2, .int .i64 0]) (by simp [results, Try.results15, go_sem]) rfl ⟨_, _, _, rfl, rfl, Hs.out, Hbel.out⟩
theorem names15_any (w : World) (ad : Option Addr) (n cap : Nat) (down : Bool) (fuse fault : Int) (fs : List F) (h : DIn w ad n cap fuse fault fs) :
    Calls Try.prog 15 #[.agg (dcells (.slice ad n cap) down fuse fault)] w fun e w' => ∃ ad2 n2 cap2, e = .returned (.tuple #[.slice ad2 n2 cap2, .int .i64 (upv ⟨fs, down, fuse, fault⟩)]) ∧ n2 = (nmv ⟨fs, down, fuse, fault⟩).length ∧ Strs w' w'.heap.size ad2 (nmv ⟨fs, down, fuse, fault⟩) ∧ Below w.heap.size w w' := by
  by_cases hR : Right fs
  · cases hd : down with
    | true => subst hd; exact names15_down w ad n cap _ fuse fault fs h hR rfl
    | false => subst hd; exact names15_up w ad n cap _ fuse fault fs h hR rfl
  · exact names15_no w ad n cap down fuse fault fs h hR

theorem names16_no (w : World) (ad : Option Addr) (n cap : Nat) (down : Bool) (fuse fault : Int) (fs : List F) (h : DIn w ad n cap fuse fault fs) (hR : ¬ Right fs) :
    Calls Try.prog 16 #[.agg (dcells (.slice ad n cap) down fuse fault)] w fun e w' => ∃ ad2 n2 cap2, e = .returned (.tuple #[.slice ad2 n2 cap2, .int .i64 (upv ⟨fs, down, fuse, fault⟩)]) ∧ n2 = (nmv ⟨fs, down, fuse, fault⟩).length ∧ Strs w' w'.heap.size ad2 (nmv ⟨fs, down, fuse, fault⟩) ∧ Below w.heap.size w w' := by
  have hb0 := (Below.refl w.heap.size w).alloc (Nat.le_refl _) (.cells (dcells (.slice ad n cap) down fuse fault) 24)
  have hx : Dk (w.alloc (.cells (dcells (.slice ad n cap) down fuse fault) 24)) w.heap.size 24 (.slice ad n cap) down fuse fault := blk_new w _
  have Hb0 := Lib.hid hb0
  have Hx := Lib.hid hx
  have H := Lib.hid h
  clear h hb0 hx
  have hU := upv_no (d := ⟨fs, down, fuse, fault⟩) hR
  have hN : nmv ⟨fs, down, fuse, fault⟩ = [] := by unfold nmv; rw [hU]; rfl
  rw [hN, hU]
  have Hck := Lib.hid (fun W (hW : Inp W W.heap.size ad n cap fs) => dcheck_no W ad cap n down fuse fault fs hW H.out.fit hR)
  clear hR hN
  go_enter Try.func16, Try.ntmps16
  go_wp2_with fail
  refine (Hck.out _ (H.out.i.under Hb0.out)).mono ?_
  rintro e w1 ⟨rfl, hb1⟩
  have Hb1 := Lib.hid (Hb0.out.trans (hb1.mono Hb0.out.size))
  have hD1 := Hx.out.keep hb1 Hx.out.lt
  have HD1 := Lib.hid hD1
  obtain ⟨⟨d0, d1, d2, d3⟩, _⟩ := hD1.facts
  clear hb1 hD1
  go_wp2
  exact bodyPost_ret (v := .tuple #[.slice none 0 0, .int .i64 6]) (by simp [results, Try.results16, go_sem]) rfl ⟨_, _, _, rfl, rfl, fun h => absurd rfl h, Hb1.out⟩
theorem names16_down (w : World) (ad : Option Addr) (n cap : Nat) (down : Bool) (fuse fault : Int) (fs : List F) (h : DIn w ad n cap fuse fault fs) (hR : Right fs) (hd : down = true) :
    Calls Try.prog 16 #[.agg (dcells (.slice ad n cap) down fuse fault)] w fun e w' => ∃ ad2 n2 cap2, e = .returned (.tuple #[.slice ad2 n2 cap2, .int .i64 (upv ⟨fs, down, fuse, fault⟩)]) ∧ n2 = (nmv ⟨fs, down, fuse, fault⟩).length ∧ Strs w' w'.heap.size ad2 (nmv ⟨fs, down, fuse, fault⟩) ∧ Below w.heap.size w w' := by
  subst hd
  have hb0 := (Below.refl w.heap.size w).alloc (Nat.le_refl _) (.cells (dcells (.slice ad n cap) true fuse fault) 24)
  have hx : Dk (w.alloc (.cells (dcells (.slice ad n cap) true fuse fault) 24)) w.heap.size 24 (.slice ad n cap) true fuse fault := blk_new w _
  have Hb0 := Lib.hid hb0
  have Hx := Lib.hid hx
  have H := Lib.hid h
  clear h hb0 hx
  have hU := upv_down (d := ⟨fs, true, fuse, fault⟩) hR rfl
  have hN : nmv ⟨fs, true, fuse, fault⟩ = [] := by unfold nmv; rw [hU]; rfl
  rw [hN, hU]
  have Hck := Lib.hid (fun W (hW : Inp W W.heap.size ad n cap fs) => dcheck_ok W ad cap n true fuse fault fs hW hR)
  clear hR hN
  go_enter Try.func16, Try.ntmps16
  go_wp2_with fail
  refine (Hck.out _ (H.out.i.under Hb0.out)).mono ?_
  rintro e w1 ⟨rfl, hb1⟩
  have Hb1 := Lib.hid (Hb0.out.trans (hb1.mono Hb0.out.size))
  have hD1 := Hx.out.keep hb1 Hx.out.lt
  have HD1 := Lib.hid hD1
  obtain ⟨⟨d0, d1, d2, d3⟩, _⟩ := hD1.facts
  clear hb1 hD1
  go_wp2
  exact bodyPost_ret (v := .tuple #[.slice none 0 0, .int .i64 17]) (by simp [results, Try.results16, go_sem]) rfl ⟨_, _, _, rfl, rfl, fun h => absurd rfl h, Hb1.out⟩
set_option maxHeartbeats 4000000 in
theorem names16_up (w : World) (ad : Option Addr) (n cap : Nat) (down : Bool) (fuse fault : Int) (fs : List F) (h : DIn w ad n cap fuse fault fs) (hR : Right fs) (hd : down = false) :
    Calls Try.prog 16 #[.agg (dcells (.slice ad n cap) down fuse fault)] w fun e w' => ∃ ad2 n2 cap2, e = .returned (.tuple #[.slice ad2 n2 cap2, .int .i64 (upv ⟨fs, down, fuse, fault⟩)]) ∧ n2 = (nmv ⟨fs, down, fuse, fault⟩).length ∧ Strs w' w'.heap.size ad2 (nmv ⟨fs, down, fuse, fault⟩) ∧ Below w.heap.size w w' := by
  subst hd
  have hb0 := (Below.refl w.heap.size w).alloc (Nat.le_refl _) (.cells (dcells (.slice ad n cap) false fuse fault) 24)
  have hx : Dk (w.alloc (.cells (dcells (.slice ad n cap) false fuse fault) 24)) w.heap.size 24 (.slice ad n cap) false fuse fault := blk_new w _
  have Hb0 := Lib.hid hb0
  have Hx := Lib.hid hx
  have H := Lib.hid h
  clear h hb0 hx
  have hU := upv_up (d := ⟨fs, false, fuse, fault⟩) hR (by simp)
  have hN : nmv ⟨fs, false, fuse, fault⟩ = fs.map F.name := by unfold nmv; rw [hU]; rfl
  rw [hN, hU]
  obtain ⟨i0, hi0, hz0, hz1, hz2⟩ := info_parts Try.info9
  have h64 : n ≤ 64 := by have := H.out.i.1; have := hR.1; omega
  have Hck := Lib.hid (fun W (hW : Inp W W.heap.size ad n cap fs) => dcheck_ok W ad cap n false fuse fault fs hW hR)
  clear hR hN
  go_enter Try.func16, Try.ntmps16
  go_wp2_with fail
  refine (Hck.out _ (H.out.i.under Hb0.out)).mono ?_
  rintro e w1 ⟨rfl, hb1⟩
  have Hb1 := Lib.hid (Hb0.out.trans (hb1.mono Hb0.out.size))
  have hD1 := Hx.out.keep hb1 Hx.out.lt
  have HD1 := Lib.hid hD1
  obtain ⟨⟨d0, d1, d2, d3⟩, _⟩ := hD1.facts
  clear hb1 hD1
  go_wp2
  go_loopw [5, 22] (fun v i wr => ∃ (k : Nat), i = .int .i64 (k : Int) ∧ k ≤ n ∧ Below w.heap.size w wr ∧ SRow wr w.heap.size v ((fs.take k).map F.name)) (fun _ i _ => n - (intOf i).toNat)
  case atStart => exact ⟨0, rfl, by omega, Hb1.out, World.ownsRow_nil _ _ _ _⟩
  case round =>
    obtain ⟨k, rfl, hk, hbel, hrow⟩ := hrel
    have Hbel := Lib.hid hbel; clear hbel
    have Hrow := Lib.hid hrow; clear hrow
    by_cases hlt : k < n
    · have hfl : k < fs.length := by have := H.out.i.1; omega
      have hne : fs ≠ [] := by rintro rfl; simp at hfl
      obtain ⟨g, off, rfl, hg, hi⟩ := (H.out.i.2.2.2.keep Hbel.out) hne
      obtain ⟨f, hf⟩ : ∃ f, fs[k]? = some f := ⟨fs[k], by simp⟩
      obtain ⟨q0, q1, q2⟩ := hi k f hf
      have hkn : (k : Int) < (n : Int) := by omega
      have hk0 : (0 : Int) ≤ (k : Int) := by omega
      have Hfk := Lib.hid (show (fs.take (k + 1)).map F.name = (fs.take k).map F.name ++ [f.name] by rw [List.take_add_one, hf]; simp)
      have hlen : ((fs.take k).map F.name).length = k := by simp; omega
      have Hlen := Lib.hid hlen
      have hal := ((Below.refl wr.heap.size wr).alloc (Nat.le_refl _) (.cells (fcells f.name f.data f.syn) 46)).alloc (by simp) (.cells #[.string f.name] 9)
      have Hb2 := Lib.hid (Hbel.out.trans (hal.mono Hbel.out.size))
      have Hown := Lib.hid (World.ownsRow.alloc (World.ownsRow.alloc Hrow.out (.cells (fcells f.name f.data f.syn) 46)) (.cells #[.string f.name] 9))
      have hnews := cell_one_new (wr.alloc (.cells (fcells f.name f.data f.syn) 46)) (.string f.name) 9
      rw [show (wr.alloc (.cells (fcells f.name f.data f.syn) 46)).heap.size = wr.heap.size + 1 by simp] at hnews
      have Hnews := Lib.hid hnews
      have hsz := Hbel.out.size
      clear hi hf hal hne hnews hlen
      go_wp2_with (at_builtin; refine wpList_append_own_at _ rfl _ _ 35 rfl w.heap.size 9 i0 _ 1 16 Try.underlying35 hi0 hz0 hz1 hz2 rfl (by decide) _ _ _ rfl Hown.out ⟨wr.heap.size + 1, 0, none⟩ 1 1 [.string f.name] rfl rfl Hnews.out (fun u hu => by simp at hu; subst hu; rfl) (by simp [maxLen]; omega) (by simp; omega) (by simp; omega) ?_)
      intro v' w' h1 h2 _ _
      have Hb3 := Lib.hid (Hb2.out.grown h2 Hb2.out.size (fun k hk => (World.ownsRow.lt Hown.out k hk).1))
      have Hr3 := Lib.hid (show SRow w' w.heap.size v' ((fs.take (k + 1)).map F.name) by
        rw [Hfk.out]; unfold SRow; simpa using h1)
      clear h1 h2
      go_wp2
      go_roundw
      case rel => exact ⟨k + 1, by go_num, by omega, Hb3.out, Hr3.out⟩
      case measure => simp [intOf]; omega
    · have hrr := Hrow.out
      rw [List.take_of_length_le (by have := H.out.i.1; omega)] at hrr
      obtain ⟨ad2, cap2, rfl, hs⟩ := hrr.strs
      have Hs := Lib.hid hs
      clear hrr hs
      go_wp2
      exact bodyPost_ret (v := .tuple #[.slice ad2 (fs.map F.name).length cap2, .int .i64 0]) (by simp [results, Try.results16, go_sem]) rfl ⟨_, _, _, rfl, rfl, Hs.out, Hbel.out⟩
theorem names16_any (w : World) (ad : Option Addr) (n cap : Nat) (down : Bool) (fuse fault : Int) (fs : List F) (h : DIn w ad n cap fuse fault fs) :
    Calls Try.prog 16 #[.agg (dcells (.slice ad n cap) down fuse fault)] w fun e w' => ∃ ad2 n2 cap2, e = .returned (.tuple #[.slice ad2 n2 cap2, .int .i64 (upv ⟨fs, down, fuse, fault⟩)]) ∧ n2 = (nmv ⟨fs, down, fuse, fault⟩).length ∧ Strs w' w'.heap.size ad2 (nmv ⟨fs, down, fuse, fault⟩) ∧ Below w.heap.size w w' := by
  by_cases hR : Right fs
  · cases hd : down with
    | true => subst hd; exact names16_down w ad n cap _ fuse fault fs h hR rfl
    | false => subst hd; exact names16_up w ad n cap _ fuse fault fs h hR rfl
  · exact names16_no w ad n cap down fuse fault fs h hR

set_option maxHeartbeats 4000000 in
theorem texts_yes (w : World) (ad ad2 : Option Addr) (n cap n2 cap2 : Nat) (ss : List ByteArray) (hn : n = ss.length) (h : Strs w w.heap.size ad ss) (hn2 : n2 = ss.length) (h2 : Strs w w.heap.size ad2 ss) (hl : n ≤ 9223372036854775807) :
    Calls Try.prog 21 #[.slice ad n cap, .slice ad2 n2 cap2] w fun e w' => e = .returned (.bool true) ∧ Below w.heap.size w w' := by
  obtain rfl : n2 = n := hn2.trans hn.symm
  have Hn := Lib.hid hn
  have Hf := Lib.hid h
  have Hf2 := Lib.hid h2
  clear h h2 hn hn2
  go_enter Try.func21, Try.ntmps21
  go_wp2
  go_loopw [13] (fun i wr => ∃ (k : Nat), i = .int .i64 (k : Int) ∧ k ≤ n2 ∧ Below w.heap.size w wr) (fun i _ => n2 - (intOf i).toNat)
  case atStart => exact ⟨0, rfl, by omega, Below.refl _ _⟩
  case round =>
    obtain ⟨k, rfl, hk, hbel⟩ := hrel
    have Hbel := Lib.hid hbel
    clear hbel
    by_cases hlt : k < n2
    · have hne : ss ≠ [] := by rintro rfl; have := Hn.out; simp at this; omega
      obtain ⟨g, off, rfl, hg, hi⟩ := (Hf.out.keep Hbel.out) hne
      obtain ⟨g2, off2, rfl, hg2, hi2⟩ := (Hf2.out.keep Hbel.out) hne
      obtain ⟨f, hf⟩ : ∃ f, ss[k]? = some f := ⟨ss[k]'(by have := Hn.out; omega), by simp⟩
      have q0 := hi k f hf
      have p0 := hi2 k f hf
      have hk0 : (0 : Int) ≤ (k : Int) := by omega
      have hkn : (k : Int) < (n2 : Int) := by omega
      have e1 := str_is (rfl : f = f)
      clear hi hi2 hf hne hg hg2
      go_wp2
      go_quiet (fail)
      go_wp2
      go_roundw
      case rel => exact ⟨k + 1, by go_num, by omega, below_drewN Hbel.out _⟩
      case measure => simp [intOf]; omega
    · go_wp2
      go_ret
      exact ⟨rfl, Hbel.out⟩
end Go.Proofs.Ytcefhcailhediaa
