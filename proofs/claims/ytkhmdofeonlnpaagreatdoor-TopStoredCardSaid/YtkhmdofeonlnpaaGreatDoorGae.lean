/- THE WALKS OVER strings.Compare. -/
import Derived.Test.YtkhmdofeonlnpaaGreatDoorGad
import Derived.Lib.Strings
import Derived.Lib.Bytealg
import Derived.Deep.LoopGhost
namespace Go.Proofs.YtkhmdofeonlnpaaGreatDoor
open Go.RowKit
set_option linter.unusedVariables false
set_option linter.unusedSimpArgs false
attribute [local irreducible] lt

def cb (a b : ByteArray) : Int := Lib.compareBytes a.data.toList b.data.toList
theorem cbl : ∀ x y : List UInt8, (Op.bytesLess x y = true → Lib.compareBytes x y = -1) ∧ (x = y → Lib.compareBytes x y = 0) ∧ (¬ Op.bytesLess x y = true → x ≠ y → Lib.compareBytes x y = 1)
  | [], [] => ⟨fun h => by simp [Op.bytesLess] at h, fun _ => rfl, fun _ h => absurd rfl h⟩
  | [], _ :: _ => ⟨fun _ => rfl, (fun h => by cases h), fun h _ => absurd rfl h⟩
  | _ :: _, [] => ⟨fun h => by simp [Op.bytesLess] at h, (fun h => by cases h), fun _ _ => rfl⟩
  | a :: x, b :: y => by
    obtain ⟨h1, h2, h3⟩ := cbl x y
    simp only [bl_cons, Lib.compareBytes, UInt8.lt_iff_toNat_lt]
    refine ⟨fun h => ?_, fun h => ?_, fun h h' => ?_⟩
    · rcases h with h | ⟨e, h⟩
      · rw [if_pos h]
      · rw [if_neg (by omega), if_neg (by omega)]; exact h1 h
    · injection h with e1 e2; subst e1 e2
      rw [if_neg (by omega), if_neg (by omega)]; exact h2 rfl
    · by_cases hab : b.toNat < a.toNat
      · rw [if_neg (by omega), if_pos hab]
      · have e : a.toNat = b.toNat := by have : ¬ a.toNat < b.toNat := fun q => h (.inl q); omega
        have e' : a = b := UInt8.toNat_inj.1 e
        subst e'
        rw [if_neg (by omega), if_neg (by omega)]
        exact h3 (fun q => h (.inr ⟨rfl, q⟩)) (fun q => h' (by rw [q]))
theorem cb_lt {a b : ByteArray} (h : lt a b = true) : cb a b = -1 := by
  unfold lt at h; rw [Go.ByteArray.toList_eq, Go.ByteArray.toList_eq] at h; exact (cbl _ _).1 h
theorem cb_eq {a b : ByteArray} (h : a = b) : cb a b = 0 := (cbl _ _).2.1 (by rw [h])
theorem cb_gt {a b : ByteArray} (h : ¬ lt a b = true) (h' : a ≠ b) : cb a b = 1 := by
  unfold lt at h; rw [Go.ByteArray.toList_eq, Go.ByteArray.toList_eq] at h; exact (cbl _ _).2.2 h (fun e => h' (ByteArray.ext (Array.toList_inj.1 e)))

set_option maxHeartbeats 1000000 in
set_option maxRecDepth 100000 in
theorem CompareString_any (a b : ByteArray) (w : World) : Calls Tryz.prog 244 #[.string a, .string b] w fun e w' => e = .returned (.int .i64 (cb a b)) ∧ w = w' := by
  go_enter Tryz.func244, Tryz.ntmps244
  go_wp2
  rw [run_callFunc_extern Tryz.func246 (by kernel_rfl) (by kernel_rfl) (by kernel_rfl) (e := Extern.BytealgCompare.compare) (by kernel_rfl), Lib.run_compareString]
  simp only [Result.andThen]
  rw [Oper.upon_value]
  go_wp2
  go_ret
  exact ⟨rfl, rfl⟩
theorem Compare_any (a b : ByteArray) (w : World) : Calls Tryz.prog 237 #[.string a, .string b] w fun e w' => e = .returned (.int .i64 (cb a b)) ∧ w = w' := by
  go_enter Tryz.func237, Tryz.ntmps237
  go_wp2_with (go_at_call 244; refine (CompareString_any _ _ _).mono ?_; rintro e w' ⟨rfl, rfl⟩)
  go_ret
  exact ⟨rfl, rfl⟩
theorem cmpf_any (n d : ByteArray) (s : Int) (b : ByteArray) (w : World) : Calls Tryz.prog 236 #[.agg (fcells n d s), .string b] w fun e w' => e = .returned (.int .i64 (cb n b)) ∧ Below w.heap.size w w' := by
  go_enter Tryz.func236, Tryz.ntmps236
  go_wp2_with (go_at_call 237; refine (Compare_any _ _ _).mono ?_; rintro e w' ⟨rfl, rfl⟩)
  go_ret
  exact ⟨rfl, (Below.refl _ _).alloc (Nat.le_refl _) _⟩

end Go.Proofs.YtkhmdofeonlnpaaGreatDoor

/- THE WALKS OVER the search by name: strings.Compare, slices.BinarySearchFunc at files, find, file. -/
namespace Go.Proofs.YtkhmdofeonlnpaaGreatDoor
open Go.RowKit
set_option linter.unusedVariables false
set_option linter.unusedSimpArgs false
attribute [local irreducible] lt

/-- where the search stands: all below lo stand ahead of the name, none from hi on -/
def Lies (fs : List F) (b : ByteArray) (lo hi : Nat) : Prop := (∀ i f, i < lo → fs[i]? = some f → lt f.name b = true) ∧ (∀ i f, hi ≤ i → fs[i]? = some f → ¬ lt f.name b = true)
theorem Lies.up {fs : List F} {b : ByteArray} {lo hi m : Nat} (hR : Right fs) (h : Lies fs b lo hi) {f : F} (hf : fs[m]? = some f) (hl : lt f.name b = true) : Lies fs b (m + 1) hi :=
  ⟨fun i g hi' hg => by
    by_cases e : i = m
    · subst e; rw [hf] at hg; injection hg with e; subst e; exact hl
    · exact lt_trans (hR.rise m i g f (by omega) hg hf) hl, h.2⟩
theorem Lies.down {fs : List F} {b : ByteArray} {lo hi m : Nat} (hR : Right fs) (h : Lies fs b lo hi) {f : F} (hf : fs[m]? = some f) (hl : ¬ lt f.name b = true) : Lies fs b lo m :=
  ⟨h.1, fun i g hi' hg hgl => by
    by_cases e : i = m
    · subst e; rw [hf] at hg; injection hg with e; subst e; exact hl hgl
    · exact hl (lt_trans (hR.rise i m f g (by omega) hf hg) hgl)⟩
theorem Lies.pos {fs : List F} {b : ByteArray} {k : Nat} (hk : k ≤ fs.length) (h : Lies fs b k k) : pos fs b = k := pos_unique k hk (fun i f hi hf => h.1 i f hi hf) (fun f hf => h.2 k f (Nat.le_refl _) hf)

set_option maxHeartbeats 600000 in
set_option maxRecDepth 100000 in
theorem search_any (w : World) (ad : Option Addr) (cap n : Nat) (b : ByteArray) (fs : List F) (t : Bool) (hn : n = fs.length) (hf : Fls w w.heap.size ad fs) (hR : Right fs) (ht : (found fs b).isSome = t) :
    Calls Tryz.prog 235 #[.slice ad n cap, .string b, .func (.func 236) #[] #[]] w fun e w' => e = .returned (.tuple #[.int .i64 (pos fs b : Nat), .bool t]) ∧ Below w.heap.size w w' := by
  have h64 : n ≤ 64 := by rw [hn]; exact hR.1
  have Hn := Lib.hid hn; clear hn
  have Hf := Lib.hid hf; clear hf
  have HR := Lib.hid hR; clear hR
  have Ht := Lib.hid ht; clear ht
  obtain ⟨P, hP⟩ : ∃ P, pos fs b = P := ⟨_, rfl⟩
  rw [hP]
  have HP := Lib.hid hP; clear hP
  go_enter Tryz.func235, Tryz.ntmps235
  go_wp2
  go_loopg [9, 10] n (fun kx s9 s10 wr => ∃ lo hi : Nat, s9 = .int .i64 lo ∧ s10 = .int .i64 hi ∧ lo ≤ hi ∧ hi ≤ n ∧ hi - lo ≤ kx ∧ Below w.heap.size w wr ∧ Lies fs b lo hi)
  case atStart => exact ⟨0, n, rfl, rfl, Nat.zero_le _, Nat.le_refl _, by omega, Below.refl _ _, fun i f h => by omega, fun i f h hf => by have := (List.getElem?_eq_some_iff.1 hf).1; have := Hn.out; omega⟩
  case round =>
    obtain ⟨lo, hi, rfl, rfl, hlh, hin, hg, hbel, hI⟩ := hrel
    have Hbel := Lib.hid hbel; clear hbel
    have HI := Lib.hid hI; clear hI
    by_cases hlt : lo < hi
    · obtain ⟨f, hf⟩ : ∃ f, fs[(lo + hi) / 2]? = some f := ⟨fs[(lo + hi) / 2]'(by have := Hn.out; omega), by simp⟩
      have hne : fs ≠ [] := by rintro rfl; simp at hf
      obtain ⟨g, off, rfl, hgl, hi'⟩ := (Hf.out.keep Hbel.out) hne
      obtain ⟨q0, q1, q2⟩ := hi' _ f hf
      have HF := Lib.hid hf
      have hq := fun W => cmpf_any f.name f.data f.syn b W
      by_cases hl : lt f.name b = true
      · rw [cb_lt hl] at hq
        have HI2 := Lib.hid (HI.out.up HR.out hf hl)
        have Hq := Lib.hid hq
        clear hq hl hf hne hgl hi'
        go_wp2_with fail
        refine (Hq.out _).mono ?_
        rintro e w' ⟨rfl, hb⟩
        have Hb := Lib.hid (Hbel.out.trans (hb.mono Hbel.out.size)); clear hb
        go_wp2
        go_roundg (hi - ((lo + hi) / 2 + 1))
        case measure => omega
        case rel => exact ⟨(lo + hi) / 2 + 1, hi, by rw [show ((lo : Int) + (hi : Int)) / 2 + 1 = (((lo + hi) / 2 + 1 : Nat) : Int) by omega], rfl, by omega, hin, Nat.le_refl _, Hb.out, HI2.out⟩
      · have hcb : ∃ z, cb f.name b = z ∧ 0 ≤ z := by
          by_cases e : f.name = b
          · exact ⟨0, cb_eq e, by omega⟩
          · exact ⟨1, cb_gt hl e, by omega⟩
        obtain ⟨z, hz, hz0⟩ := hcb
        rw [hz] at hq
        have HI2 := Lib.hid (HI.out.down HR.out hf hl)
        have Hq := Lib.hid hq
        clear hq hl hf hne hgl hi' hz
        go_wp2_with fail
        refine (Hq.out _).mono ?_
        rintro e w' ⟨rfl, hb⟩
        have Hb := Lib.hid (Hbel.out.trans (hb.mono Hbel.out.size)); clear hb
        go_wp2
        go_roundg ((lo + hi) / 2 - lo)
        case measure => omega
        case rel => exact ⟨lo, (lo + hi) / 2, rfl, by rw [show ((lo : Int) + (hi : Int)) / 2 = (((lo + hi) / 2 : Nat) : Int) by omega], by omega, by omega, Nat.le_refl _, Hb.out, HI2.out⟩
    · obtain rfl : hi = lo := by omega
      have Hpos := Lib.hid (show P = hi from HP.out.symm.trans (HI.out.pos (by have := Hn.out; omega)))
      by_cases hn : hi < n
      · obtain ⟨f, hf⟩ : ∃ f, fs[hi]? = some f := ⟨fs[hi]'(by have := Hn.out; omega), by simp⟩
        have hne : fs ≠ [] := by rintro rfl; simp at hf
        obtain ⟨g, off, rfl, hgl, hi'⟩ := (Hf.out.keep Hbel.out) hne
        obtain ⟨q0, q1, q2⟩ := hi' _ f hf
        have hq := fun W => cmpf_any f.name f.data f.syn b W
        have hl : ¬ lt f.name b = true := HI.out.2 hi f (Nat.le_refl _) hf
        have hP' : pos fs b = hi := HP.out.trans Hpos.out
        by_cases e : f.name = b
        · rw [cb_eq e] at hq
          have Ht' := Lib.hid (show t = true by rw [← Ht.out]; unfold found; rw [hP', hf]; simp [e])
          have Hq := Lib.hid hq
          clear hq hl hf hne hgl hi' hP' e
          go_wp2_with fail
          refine (Hq.out _).mono ?_
          rintro e w' ⟨rfl, hb⟩
          have Hb := Lib.hid (Hbel.out.trans (hb.mono Hbel.out.size)); clear hb
          go_wp2
          go_ret2
          exact ⟨by rw [Ht'.out, Hpos.out]; rfl, Hb.out⟩
        · rw [cb_gt hl e] at hq
          have Ht' := Lib.hid (show t = false by rw [← Ht.out]; unfold found; rw [hP', hf]; simp [e])
          have Hq := Lib.hid hq
          clear hq hl hf hne hgl hi' hP' e
          go_wp2_with fail
          refine (Hq.out _).mono ?_
          rintro e w' ⟨rfl, hb⟩
          have Hb := Lib.hid (Hbel.out.trans (hb.mono Hbel.out.size)); clear hb
          go_wp2
          go_ret2
          exact ⟨by rw [Ht'.out, Hpos.out]; rfl, Hb.out⟩
      · have Ht' := Lib.hid (show t = false by
          have hP' : pos fs b = hi := HP.out.trans Hpos.out
          have : fs[hi]? = none := by rw [List.getElem?_eq_none_iff]; have := Hn.out; omega
          rw [← Ht.out]; unfold found; rw [hP', this]; rfl)
        go_wp2
        go_ret2
        exact ⟨by rw [Ht'.out, Hpos.out]; rfl, Hbel.out⟩

/-- the list's length is told, or where it lies -/
theorem find_any (w : World) (g : Nat) (T : Nat) (ad : Option Addr) (cap n : Nat) (down : Bool) (fuse fault : Int) (b : ByteArray) (fs : List F) (t : Bool) (hD : Dk w g T (.slice ad n cap) down fuse fault) (hn : n = fs.length) (hf : Fls w w.heap.size ad fs) (hR : Right fs) (ht : (found fs b).isSome = t) :
    Calls Tryz.prog 218 #[.pointer (some ⟨g, 0, none⟩), .string b] w fun e w' => e = .returned (.tuple #[.int .i64 (pos fs b : Nat), .bool t]) ∧ Below w.heap.size w w' := by
  obtain ⟨⟨d0, d1, d2, d3⟩, _⟩ := hD.facts
  have HS := Lib.hid (search_any w ad cap n b fs t hn hf hR ht)
  obtain ⟨P, hP⟩ : ∃ P, pos fs b = P := ⟨_, rfl⟩
  rw [hP] at HS ⊢
  clear hP hn hf hR ht hD
  go_enter Tryz.func218, Tryz.ntmps218
  go_wp2_with fail
  refine (HS.out).mono ?_
  rintro e w' ⟨rfl, hb⟩
  have Hb := Lib.hid hb; clear hb
  go_wp2
  go_ret2
  exact ⟨rfl, Hb.out⟩
theorem file_no (w : World) (g : Nat) (T : Nat) (ad : Option Addr) (cap n : Nat) (down : Bool) (fuse fault : Int) (b : ByteArray) (fs : List F) (hD : Dk w g T (.slice ad n cap) down fuse fault) (hn : n = fs.length) (hf : Fls w w.heap.size ad fs) (hR : Right fs) (ht : found fs b = none) :
    Calls Tryz.prog 217 #[.pointer (some ⟨g, 0, none⟩), .string b] w fun e w' => e = .returned (.pointer none) ∧ Below w.heap.size w w' := by
  have HS := Lib.hid (find_any w g T ad cap n down fuse fault b fs false hD hn hf hR (by rw [ht]; rfl))
  clear hn hf hR ht hD
  go_enter Tryz.func217, Tryz.ntmps217
  go_wp2_with fail
  refine (HS.out).mono ?_
  rintro e w' ⟨rfl, hb⟩
  have Hb := Lib.hid hb; clear hb
  go_wp2
  go_ret
  exact ⟨rfl, Hb.out⟩
/-- what lies where the file is -/
theorem file_yes (w : World) (g : Nat) (T : Nat) (ad : Option Addr) (cap n : Nat) (down : Bool) (fuse fault : Int) (b : ByteArray) (fs : List F) (f : F) (hD : Dk w g T (.slice ad n cap) down fuse fault) (hn : n = fs.length) (hf : Fls w w.heap.size ad fs) (hR : Right fs) (ht : found fs b = some f)
    (gb off : Nat) (had : ad = some ⟨gb, off, none⟩) :
    Calls Tryz.prog 217 #[.pointer (some ⟨g, 0, none⟩), .string b] w fun e w' => e = .returned (.pointer (some ⟨gb, off + pos fs b * 3, none⟩)) ∧ Below w.heap.size w w' := by
  have HS := Lib.hid (find_any w g T ad cap n down fuse fault b fs true hD hn hf hR (by rw [ht]; rfl))
  subst had
  have hlt : pos fs b < n := by rw [hn]; exact (List.getElem?_eq_some_iff.1 (found_some ht).1).1
  obtain ⟨P, hP⟩ : ∃ P, pos fs b = P := ⟨_, rfl⟩
  rw [hP] at HS hlt ⊢
  have HD := Lib.hid hD
  have hlt0 : (0 : Int) ≤ (P : Int) := by omega
  have hlt1 : (P : Int) < (n : Int) := by omega
  clear hP hn hf hR ht hD
  go_enter Tryz.func217, Tryz.ntmps217
  go_wp2_with fail
  refine (HS.out).mono ?_
  rintro e w' ⟨rfl, hb⟩
  obtain ⟨⟨d0, d1, d2, d3⟩, _⟩ := (HD.out.keep hb HD.out.lt).facts
  have Hb := Lib.hid hb; clear hb
  go_wp2
  go_ret
  exact ⟨rfl, Hb.out⟩
end Go.Proofs.YtkhmdofeonlnpaaGreatDoor

/- THE WALKS OVER slices.Clone at files, begin, comes, changeOf. -/
namespace Go.Proofs.YtkhmdofeonlnpaaGreatDoor
open Go.RowKit
set_option linter.unusedVariables false
set_option linter.unusedSimpArgs false

theorem Tryz.info107 : (Tryz.prog.info? 107).map (fun i => (i.zero, i.size, i.bytes)) = some (some (.agg #[.string ⟨#[]⟩, .string ⟨#[]⟩, .int .i64 0]), 3, 40) := by kernel_rfl
theorem src_cells {w w' : World} {B : Nat} {a : Addr} {fs : List F} (hf : Fls w B (some a) fs) (hb : Below B w w') : ∀ j u, (fs.flatMap fc)[j]? = some u → w'.cell? (a.add j) = some u := by
  intro j u hu
  have hne : fs ≠ [] := by rintro rfl; simp at hu
  obtain ⟨g, off, e, hg, hc⟩ := hf.cells hne
  injection e with e
  subst e
  rw [Addr.add_lit]
  exact (hb.cell (p := ⟨g, off + j, none⟩) hg).trans (hc j u hu)
set_option maxHeartbeats 1000000 in
theorem clone_some (w : World) (a : Addr) (cap n : Nat) (fs : List F) (hn : n = fs.length) (hf : Fls w w.heap.size (some a) fs) (h64 : n ≤ 1000) :
    Calls Tryz.prog 95 #[.slice (some a) n cap] w fun e w' => ∃ v, e = .returned v ∧ FRow w' w.heap.size v fs ∧ Below w.heap.size w w' := by
  obtain ⟨i0, hi, hz0, hz1, hz2⟩ := info_parts Tryz.info107
  have hnews := src_cells hf ((Below.refl _ w).alloc (Nat.le_refl _) (.cells #[] 107))
  have Hnews := Lib.hid hnews
  have hl : (fs.flatMap fc).length = n * 3 := by rw [hn]; exact fc_len fs
  have Hl := Lib.hid hl
  have Hn := Lib.hid hn
  clear hn hnews hl
  have hown := World.ownsRow_lit (base := w.heap.size) (e := 107) (size := 3) w #[] 0 (Nat.le_refl _) (by simp [maxLen]) rfl
  have Hown := Lib.hid hown
  clear hown
  have hq : ∀ W, (binOp .eql 22 (.slice (some a) n cap) (.slice none 0 0)).run Tryz.prog W = .ok (.bool false) W := fun W => by kernel_rfl
  go_enter Tryz.func95, Tryz.ntmps95
  go_wp2_with (at_builtin; refine wpList_append_own_at _ rfl _ _ 22 rfl w.heap.size 107 i0 _ 3 40 Tryz.underlying22 hi hz0 hz1 hz2 rfl (by decide) (.slice (some ⟨w.heap.size, 0, none⟩) 0 0) 0 _ rfl Hown.out a n cap (fs.flatMap fc) rfl Hl.out Hnews.out (fc_one fs) (by simp [maxLen]; omega) (by omega) (by simp) ?_)
  intro v' w' h1 h2 _ _
  have Hb := Lib.hid (((Below.refl w.heap.size w).alloc (Nat.le_refl _) (.cells #[] 107)).grown h2 (by simp) (fun k hk => by simp [Value.ownBlock] at hk; omega))
  have Hr := Lib.hid (show FRow w' w.heap.size v' fs by have := h1; rw [Hn.out] at this; exact this)
  clear h1 h2
  go_wp2
  go_ret
  exact ⟨v', rfl, Hr.out, Hb.out⟩
theorem clone_nil (w : World) : Calls Tryz.prog 95 #[.slice none 0 0] w fun e w' => e = .returned (.slice none 0 0) ∧ w = w' := by
  have hq : ∀ W, (binOp .eql 22 (.slice none 0 0) (.slice none 0 0)).run Tryz.prog W = .ok (.bool true) W := fun W => by kernel_rfl
  go_enter Tryz.func95, Tryz.ntmps95
  go_wp2
  go_ret
  exact ⟨rfl, rfl⟩
/-- a slice of files that came in -/
def Inp (w : World) (B : Nat) (ad : Option Addr) (n cap : Nat) (fs : List F) : Prop := n = fs.length ∧ n ≤ cap ∧ (ad = none → cap = 0) ∧ Fls w B ad fs
theorem Inp.keep {w w' : World} {B : Nat} {ad : Option Addr} {n cap : Nat} {fs : List F} (h : Inp w B ad n cap fs) (hb : Below B w w') : Inp w' B ad n cap fs := ⟨h.1, h.2.1, h.2.2.1, h.2.2.2.keep hb⟩
theorem Inp.mono {w : World} {B B' : Nat} {ad : Option Addr} {n cap : Nat} {fs : List F} (h : Inp w B ad n cap fs) (hb : B ≤ B') : Inp w B' ad n cap fs := ⟨h.1, h.2.1, h.2.2.1, h.2.2.2.mono hb⟩
theorem clone_any (w : World) (ad : Option Addr) (cap n : Nat) (fs : List F) (hi : Inp w w.heap.size ad n cap fs) (h64 : n ≤ 1000) :
    Calls Tryz.prog 95 #[.slice ad n cap] w fun e w' => ∃ v, e = .returned v ∧ FRow w' w.heap.size v fs ∧ Below w.heap.size w w' := by
  obtain ⟨hn, hc, hnil, hf⟩ := hi
  cases ad with
  | some a => exact clone_some w a cap n fs hn hf h64
  | none =>
    have hc0 := hnil rfl
    subst hc0
    obtain rfl : n = 0 := by omega
    have hx : fs = [] := List.eq_nil_of_length_eq_zero hn.symm
    subst hx
    exact (clone_nil w).mono fun e w' ⟨h1, h2⟩ => ⟨_, h1, World.ownsRow_nil _ _ _ _, by rw [h2]; exact Below.refl _ _⟩

theorem FRow.form {w : World} {base : Nat} {v : Value} {fs : List F} (h : FRow w base v fs) : ∃ ad cap, v = .slice ad fs.length cap := by
  obtain ⟨ad, cap, h1, _⟩ := h.fls; exact ⟨ad, cap, h1⟩
theorem FRow.set_far {w : World} {base : Nat} {v : Value} {fs : List F} (h : FRow w base v fs) {g o : Nat} (u : Value) (hne : v.ownBlock ≠ some g) : FRow (w.setCell ⟨g, o, none⟩ u) base v fs :=
  h.kept (row := some g) ⟨rfl, rfl, rfl, by simp [World.setCell], fun k _ hk => Below.heap_setCell w _ u k (by intro e; exact hk (by rw [e]))⟩ (.inr hne)
set_option maxHeartbeats 1000000 in
/-- begin: the disk, its list its own -/
theorem begin_any (w : World) (ad : Option Addr) (cap n : Nat) (down : Bool) (fuse fault : Int) (fs : List F) (hi : Inp w w.heap.size ad n cap fs) (h64 : n ≤ 1000) :
    Calls Tryz.prog 54 #[.agg (dcells (.slice ad n cap) down fuse fault)] w fun e w' => ∃ g v, e = .returned (.pointer (some ⟨g, 0, none⟩)) ∧ Dk w' g 91 v down fuse fault ∧ FRow w' w.heap.size v fs ∧ v.ownBlock ≠ some g ∧ w.heap.size ≤ g ∧ Below w.heap.size w w' := by
  have Hi := Lib.hid hi; clear hi
  go_enter Tryz.func54, Tryz.ntmps54
  go_wp2_with fail
  refine (clone_any _ ad cap n fs ((Hi.out.keep ((Below.refl _ w).alloc (Nat.le_refl _) _)).mono (by simp)) h64).mono ?_
  rintro e w1 ⟨v, rfl, hr, hb⟩
  have hD : Dk w1 w.heap.size 24 (.slice ad n cap) down fuse fault := Dk.keep (blk_new w _) hb (by simp)
  obtain ⟨ad1, cap1, hv⟩ := hr.form
  subst hv
  obtain ⟨⟨d0, d1, d2, d3⟩, ⟨f0, f1, f2, f3⟩⟩ := hD.facts
  have hne : (Value.slice ad1 fs.length cap1).ownBlock ≠ some w.heap.size := fun e => by have := (hr.lt _ e).1; simp at this; omega
  have hlt := hD.lt
  have Hr := Lib.hid (hr.set_far (o := 0) (.slice ad1 fs.length cap1) hne)
  have Hb := Lib.hid (((Below.refl w.heap.size w).alloc (Nat.le_refl _) (.cells (dcells (.slice ad n cap) down fuse fault) 24)).trans (hb.mono (by simp)))
  have hnew : ∀ k, (Value.slice ad1 fs.length cap1).ownBlock = some k → k < w1.heap.size := fun k hk => (hr.lt k hk).2
  have Hnew := Lib.hid hnew
  clear hr hb hD hne hnew
  go_wp2
  go_ret
  refine ⟨w1.heap.size, .slice ad1 fs.length cap1, rfl, ?_, ?_, ?_, ?_, ?_⟩
  · have := blk_new (w1.setCell ⟨w.heap.size, 0, none⟩ (.slice ad1 fs.length cap1)) (.cells (dcells (.slice ad1 fs.length cap1) down fuse fault) 91)
    simpa [Dk] using this
  · exact (World.ownsRow.mono Hr.out (by simp)).alloc _
  · intro e; have := Hnew.out _ e; omega
  · have := Hb.out.size; omega
  · exact ((Hb.out.setCell (by simp) _).alloc (by simp [World.setCell]; have := Hb.out.size; omega) _)
end Go.Proofs.YtkhmdofeonlnpaaGreatDoor

/- THE WALKS OVER comes, changeOf, what the changes refuse. -/
namespace Go.Proofs.YtkhmdofeonlnpaaGreatDoor
open Go.RowKit
set_option linter.unusedVariables false
set_option linter.unusedSimpArgs false

theorem Dk.set2 {w : World} {g T : Nat} {v : Value} {down : Bool} {fuse fault : Int} (h : Dk w g T v down fuse fault) (x : Int) : Dk (w.setCell ⟨g, 2, none⟩ (.int .i64 x)) g T v down x fault := heap_setCell_same w g 2 _ T _ h
theorem Dk.set3 {w : World} {g T : Nat} {v : Value} {down : Bool} {fuse fault : Int} (h : Dk w g T v down fuse fault) (x : Int) : Dk (w.setCell ⟨g, 3, none⟩ (.int .i64 x)) g T v down fuse x := heap_setCell_same w g 3 _ T _ h
theorem Dk.set1 {w : World} {g T : Nat} {v : Value} {down : Bool} {fuse fault : Int} (h : Dk w g T v down fuse fault) (x : Bool) : Dk (w.setCell ⟨g, 1, none⟩ (.bool x)) g T v x fuse fault := heap_setCell_same w g 1 _ T _ h
theorem Dk.set0 {w : World} {g T : Nat} {v : Value} {down : Bool} {fuse fault : Int} (h : Dk w g T v down fuse fault) (x : Value) : Dk (w.setCell ⟨g, 0, none⟩ x) g T x down fuse fault := heap_setCell_same w g 0 _ T _ h
theorem grown_set (w : World) (g o : Nat) (v : Value) : w.grownBy (w.setCell ⟨g, o, none⟩ v) (some g) :=
  ⟨rfl, rfl, rfl, by simp [World.setCell], fun k _ hk => Below.heap_setCell w _ v k (by intro e; exact hk (by rw [e]))⟩
theorem grown_refl (w : World) (r : Option Nat) : w.grownBy w r := ⟨rfl, rfl, rfl, Nat.le_refl _, fun _ _ _ => rfl⟩

theorem comes_cell (w : World) (g o : Nat) (n : Int) (h : w.cell? ⟨g, o, none⟩ = some (.int .i64 n)) (hf : w.frozen? ⟨g, o, none⟩ = false) (h0 : -9223372036854775808 ≤ n) (h1 : n ≤ 9223372036854775807) :
    Calls Tryz.prog 193 #[.pointer (some ⟨g, o, none⟩)] w fun e w' => e = .returned (.bool (decide (n = 0))) ∧ w' = (if 0 < n then w.setCell ⟨g, o, none⟩ (.int .i64 (n - 1)) else w) := by
  obtain ⟨b, hb⟩ : ∃ b, decide (n = 0) = b := ⟨_, rfl⟩
  obtain ⟨z, hz⟩ : ∃ z, (if 0 < n then w.setCell ⟨g, o, none⟩ (.int .i64 (n - 1)) else w) = z := ⟨_, rfl⟩
  rw [hb, hz]
  have Hb := Lib.hid hb; clear hb
  have Hz := Lib.hid hz; clear hz
  by_cases c0 : n = 0
  · subst c0
    go_enter Tryz.func193, Tryz.ntmps193
    go_wp2
    go_ret
    exact ⟨ret_bool (by rw [← Hb.out]; rfl), by rw [← Hz.out]; rfl⟩
  · by_cases c1 : 0 < n
    · go_enter Tryz.func193, Tryz.ntmps193
      go_wp2
      go_ret
      exact ⟨ret_bool (by rw [← Hb.out]; simp [c0]), by rw [← Hz.out, if_pos c1]⟩
    · go_enter Tryz.func193, Tryz.ntmps193
      go_wp2
      go_ret
      exact ⟨ret_bool (by rw [← Hb.out]; simp [c0]), by rw [← Hz.out, if_neg (by omega)]⟩
def isZero (n : Int) : Bool := decide (n = 0)
theorem comes_fault (w : World) (g T : Nat) (v : Value) (down : Bool) (fuse fault : Int) (h : Dk w g T v down fuse fault) (h0 : -9223372036854775808 ≤ fault) (h1 : fault ≤ 9223372036854775807) :
    Calls Tryz.prog 193 #[.pointer (some ⟨g, 3, none⟩)] w fun e w' => e = .returned (.bool (isZero fault)) ∧ Dk w' g T v down fuse (dec fault) ∧ w.grownBy w' (some g) := by
  obtain ⟨⟨d0, d1, d2, d3⟩, f0, f1, f2, f3⟩ := h.facts
  refine (comes_cell w g 3 fault d3 f3 h0 h1).mono ?_
  rintro e w' ⟨he, hw⟩
  by_cases c : 0 < fault
  · rw [if_pos c] at hw; subst hw; rw [dec_pos c]; exact ⟨he, h.set3 _, grown_set _ _ _ _⟩
  · rw [if_neg c] at hw; subst hw; rw [dec_neg c]; exact ⟨he, h, grown_refl _ _⟩
theorem comes_fuse (w : World) (g T : Nat) (v : Value) (down : Bool) (fuse fault : Int) (h : Dk w g T v down fuse fault) (h0 : -9223372036854775808 ≤ fuse) (h1 : fuse ≤ 9223372036854775807) :
    Calls Tryz.prog 193 #[.pointer (some ⟨g, 2, none⟩)] w fun e w' => e = .returned (.bool (isZero fuse)) ∧ Dk w' g T v down (dec fuse) fault ∧ w.grownBy w' (some g) := by
  obtain ⟨⟨d0, d1, d2, d3⟩, f0, f1, f2, f3⟩ := h.facts
  refine (comes_cell w g 2 fuse d2 f2 h0 h1).mono ?_
  rintro e w' ⟨he, hw⟩
  by_cases c : 0 < fuse
  · rw [if_pos c] at hw; subst hw; rw [dec_pos c]; exact ⟨he, h.set2 _, grown_set _ _ _ _⟩
  · rw [if_neg c] at hw; subst hw; rw [dec_neg c]; exact ⟨he, h, grown_refl _ _⟩

theorem run_store_func (P : Program) (w : World) (a : Addr) (m : Mode) (f : Fn) (x y : Array Value) : (store a (.func f x y) m).run P w = stored P w a (.func f x y) m := run_store P w a _ m rfl
theorem run_store_nilf (P : Program) (w : World) (a : Addr) (m : Mode) : (store a .nilFunc m).run P w = stored P w a .nilFunc m := run_store P w a _ m rfl
attribute [local go_sem] run_store_func run_store_nilf
abbrev fnv (k : Nat) : Value := .func (.func k) #[] #[]
/-- the functions of a kind -/
def fn3 (k : Int) : Nat × Nat × Nat := if k = 1 then (184, 185, 183) else if k = 2 then (186, 187, 187) else if k = 3 then (188, 189, 183) else if k = 4 then (190, 191, 183) else (188, 192, 183)
abbrev chv (a b c : Nat) : Value := .agg #[fnv a, fnv b, fnv c]
theorem changeOf_1 (w : World) : Calls Tryz.prog 147 #[.int .u8 1] w fun e w' => e = .returned (.tuple #[chv 184 185 183, .bool true]) ∧ Below w.heap.size w w' := by
  go_enter Tryz.func147, Tryz.ntmps147
  go_wp2
  refine bodyPost_ret (v := .tuple #[chv 184 185 183, .bool true]) (by simp [results, Tryz.results147, go_sem]) rfl ⟨rfl, ?_⟩
  exact (Below.refl _ w).alloc (Nat.le_refl _) _
theorem changeOf_2 (w : World) : Calls Tryz.prog 147 #[.int .u8 2] w fun e w' => e = .returned (.tuple #[chv 186 187 187, .bool true]) ∧ Below w.heap.size w w' := by
  go_enter Tryz.func147, Tryz.ntmps147
  go_wp2
  refine bodyPost_ret (v := .tuple #[chv 186 187 187, .bool true]) (by simp [results, Tryz.results147, go_sem]) rfl ⟨rfl, ?_⟩
  exact (Below.refl _ w).alloc (Nat.le_refl _) _
theorem changeOf_3 (w : World) : Calls Tryz.prog 147 #[.int .u8 3] w fun e w' => e = .returned (.tuple #[chv 188 189 183, .bool true]) ∧ Below w.heap.size w w' := by
  go_enter Tryz.func147, Tryz.ntmps147
  go_wp2
  refine bodyPost_ret (v := .tuple #[chv 188 189 183, .bool true]) (by simp [results, Tryz.results147, go_sem]) rfl ⟨rfl, ?_⟩
  exact (Below.refl _ w).alloc (Nat.le_refl _) _
theorem changeOf_4 (w : World) : Calls Tryz.prog 147 #[.int .u8 4] w fun e w' => e = .returned (.tuple #[chv 190 191 183, .bool true]) ∧ Below w.heap.size w w' := by
  go_enter Tryz.func147, Tryz.ntmps147
  go_wp2
  refine bodyPost_ret (v := .tuple #[chv 190 191 183, .bool true]) (by simp [results, Tryz.results147, go_sem]) rfl ⟨rfl, ?_⟩
  exact (Below.refl _ w).alloc (Nat.le_refl _) _
theorem changeOf_5 (w : World) : Calls Tryz.prog 147 #[.int .u8 5] w fun e w' => e = .returned (.tuple #[chv 188 192 183, .bool true]) ∧ Below w.heap.size w w' := by
  go_enter Tryz.func147, Tryz.ntmps147
  go_wp2
  refine bodyPost_ret (v := .tuple #[chv 188 192 183, .bool true]) (by simp [results, Tryz.results147, go_sem]) rfl ⟨rfl, ?_⟩
  exact (Below.refl _ w).alloc (Nat.le_refl _) _
theorem changeOf_no (k : Int) (w : World) (h1 : ¬ k = 1) (h2 : ¬ k = 2) (h3 : ¬ k = 3) (h4 : ¬ k = 4) (h5 : ¬ k = 5) : Calls Tryz.prog 147 #[.int .u8 k] w fun e w' => e = .returned (.tuple #[.agg #[.nilFunc, .nilFunc, .nilFunc], .bool false]) ∧ Below w.heap.size w w' := by
  go_enter Tryz.func147, Tryz.ntmps147
  go_wp2
  refine bodyPost_ret (v := .tuple #[.agg #[.nilFunc, .nilFunc, .nilFunc], .bool false]) (by simp [results, Tryz.results147, go_sem]) rfl ⟨rfl, ?_⟩
  exact (Below.refl _ w).alloc (Nat.le_refl _) _

theorem nothing_any (x : Value) (k : Int) (n d : ByteArray) (z : Int) (w : World) : Calls Tryz.prog 183 #[x, .agg #[.int .u8 k, .string n, .string d, .int .i64 z]] w fun e w' => e = .returned (.tuple #[]) ∧ Below w.heap.size w w' := by
  go_enter Tryz.func183, Tryz.ntmps183
  go_wp2
  go_end0
  exact ⟨rfl, (Below.refl _ _).alloc (Nat.le_refl _) _⟩
end Go.Proofs.YtkhmdofeonlnpaaGreatDoor

/- THE WALKS OVER what the changes refuse. -/
namespace Go.Proofs.YtkhmdofeonlnpaaGreatDoor
open Go.RowKit
set_option linter.unusedVariables false
set_option linter.unusedSimpArgs false

/-- a step's cells -/
abbrev scells (k : Int) (n d : ByteArray) (z : Int) : Array Value := #[.int .u8 k, .string n, .string d, .int .i64 z]
/-- block g holds the disk with the right files fs -/
structure On (w : World) (g : Nat) (ad : Option Addr) (n cap : Nat) (down : Bool) (fuse fault : Int) (fs : List F) : Prop where
  d : Dk w g 91 (.slice ad n cap) down fuse fault
  n : n = fs.length
  f : Fls w w.heap.size ad fs
  r : Right fs
section
variable {w w' : World} {g : Nat} {ad : Option Addr} {n cap : Nat} {down : Bool} {fuse fault : Int} {fs : List F}
theorem On.keep (h : On w g ad n cap down fuse fault fs) (hb : Below w.heap.size w w') : On w' g ad n cap down fuse fault fs := ⟨h.d.keep hb h.d.lt, h.n, (h.f.keep hb).mono hb.size, h.r⟩
theorem On.alloc (h : On w g ad n cap down fuse fault fs) (o : Obj) : On (w.alloc o) g ad n cap down fuse fault fs := h.keep ((Below.refl _ w).alloc (Nat.le_refl _) o)
theorem On.file_no (h : On w g ad n cap down fuse fault fs) {b : ByteArray} (ht : found fs b = none) :
    Calls Tryz.prog 217 #[.pointer (some ⟨g, 0, none⟩), .string b] w fun e w' => e = .returned (.pointer none) ∧ Below w.heap.size w w' := YtkhmdofeonlnpaaGreatDoor.file_no w g 91 ad cap n down fuse fault b fs h.d h.n h.f h.r ht
theorem On.isat (h : On w g ad n cap down fuse fault fs) {b : ByteArray} {f : F} (ht : found fs b = some f) : ∃ gb off, ad = some ⟨gb, off, none⟩ ∧ gb < w.heap.size ∧ At3 w gb off (pos fs b) f := by
  obtain ⟨gb, off, e, hg, hi⟩ := h.f (List.ne_nil_of_mem (found_mem ht))
  exact ⟨gb, off, e, hg, hi _ f (found_some ht).1⟩
theorem On.file_yes {gb off : Nat} (h : On w g (some ⟨gb, off, none⟩) n cap down fuse fault fs) {b : ByteArray} {f : F} (ht : found fs b = some f) :
    Calls Tryz.prog 217 #[.pointer (some ⟨g, 0, none⟩), .string b] w fun e w' => e = .returned (.pointer (some ⟨gb, off + pos fs b * 3, none⟩)) ∧ Below w.heap.size w w' := YtkhmdofeonlnpaaGreatDoor.file_yes w g 91 _ cap n down fuse fault b fs f h.d h.n h.f h.r ht gb off rfl
end
theorem ref1 {fs : List F} {n d : ByteArray} {z : Int} : ref fs ⟨1, n, d, z⟩ = if okN n then (if (found fs n).isSome then 6 else if fs.length = 64 then 8 else 0) else 4 := by simp [ref]
theorem refN {fs : List F} {k : Int} {n d : ByteArray} {z : Int} (hk : ¬ k = 1) (h : found fs n = none) : ref fs ⟨k, n, d, z⟩ = 7 := by simp [ref, hk, h]
theorem ref2 {fs : List F} {n d : ByteArray} {z : Int} {f : F} (h : found fs n = some f) : ref fs ⟨2, n, d, z⟩ = if 262144 - f.data.size < d.size then 8 else 0 := by simp [ref, h]
theorem ref3 {fs : List F} {n d : ByteArray} {z : Int} {f : F} (h : found fs n = some f) : ref fs ⟨3, n, d, z⟩ = 0 := by simp [ref, h]
theorem ref5 {fs : List F} {n d : ByteArray} {z : Int} {f : F} (h : found fs n = some f) : ref fs ⟨5, n, d, z⟩ = 0 := by simp [ref, h]
theorem ref4 {fs : List F} {n d : ByteArray} {z : Int} {f : F} (h : found fs n = some f) : ref fs ⟨4, n, d, z⟩ = if z < 0 ∨ (f.data.size : Int) < z then 2 else 0 := by simp [ref, h]

section
variable (w : World) (g : Nat) (ad : Option Addr) (n cap : Nat) (down : Bool) (fuse fault : Int) (fs : List F) (nm dt : ByteArray) (z : Int)
set_option maxHeartbeats 1000000 in
theorem ref_42 (k : Int) (h : On w g ad n cap down fuse fault fs) (hs : nm.size ≤ 9223372036854775807) :
    Calls Tryz.prog 184 #[.pointer (some ⟨g, 0, none⟩), .agg (scells k nm dt z)] w fun e w' => e = .returned (.int .i64 (ref fs ⟨1, nm, dt, z⟩)) ∧ Below w.heap.size w w' := by
  obtain ⟨r, hr⟩ : ∃ r, ref fs ⟨1, nm, dt, z⟩ = r := ⟨_, rfl⟩
  rw [hr]
  rw [ref1] at hr
  have H := Lib.hid h; clear h
  have hN := fun W => isName_any nm W hs
  by_cases c : okN nm
  · rw [if_pos c] at hr
    rw [show okNB nm = true from decide_eq_true c] at hN
    have HN := Lib.hid hN; clear hN
    cases hf : found fs nm with
    | some f =>
      rw [hf] at hr
      obtain ⟨gb, off, rfl, hgb, _⟩ := H.out.isat hf
      have HF := Lib.hid ((H.out.alloc (.cells (scells k nm dt z) 182)).file_yes hf)
      have Hr := Lib.hid hr
      clear hr hf c
      go_enter Tryz.func184, Tryz.ntmps184
      go_wp2_with fail
      refine (HN.out _).mono ?_
      rintro e w1 ⟨rfl, rfl⟩
      go_wp2_with fail
      refine (HF.out).mono ?_
      rintro e w1 ⟨rfl, hb⟩
      have Hb := Lib.hid (((Below.refl w.heap.size w).alloc (Nat.le_refl _) _).trans (hb.mono (by simp))); clear hb
      go_wp2
      go_ret
      exact ⟨ret_int Hr.out, Hb.out⟩
    | none =>
      rw [hf] at hr
      have HF := Lib.hid ((H.out.alloc (.cells (scells k nm dt z) 182)).file_no hf)
      have HD := Lib.hid (H.out.alloc (.cells (scells k nm dt z) 182))
      by_cases c64 : n = 64
      · have Hr := Lib.hid (show r = 8 by rw [← hr]; rw [H.out.n] at c64; simp [c64])
        clear hr hf c
        subst c64
        go_enter Tryz.func184, Tryz.ntmps184
        go_wp2_with fail
        refine (HN.out _).mono ?_
        rintro e w1 ⟨rfl, rfl⟩
        go_wp2_with fail
        refine (HF.out).mono ?_
        rintro e w1 ⟨rfl, hb⟩
        obtain ⟨⟨d0, d1, d2, d3⟩, _⟩ := (HD.out.keep hb).d.facts
        have Hb := Lib.hid (((Below.refl w.heap.size w).alloc (Nat.le_refl _) _).trans (hb.mono (by simp))); clear hb
        go_wp2
        go_ret
        exact ⟨ret_int Hr.out.symm, Hb.out⟩
      · have Hr := Lib.hid (show r = 0 by rw [← hr]; rw [H.out.n] at c64; simp [c64])
        have c64' : ((n : Int) == 64) = false := by simp; omega
        clear hr hf c
        go_enter Tryz.func184, Tryz.ntmps184
        go_wp2_with fail
        refine (HN.out _).mono ?_
        rintro e w1 ⟨rfl, rfl⟩
        go_wp2_with fail
        refine (HF.out).mono ?_
        rintro e w1 ⟨rfl, hb⟩
        obtain ⟨⟨d0, d1, d2, d3⟩, _⟩ := (HD.out.keep hb).d.facts
        have Hb := Lib.hid (((Below.refl w.heap.size w).alloc (Nat.le_refl _) _).trans (hb.mono (by simp))); clear hb
        go_wp2
        go_ret
        exact ⟨ret_int Hr.out.symm, Hb.out⟩
  · rw [if_neg c] at hr
    rw [show okNB nm = false from decide_eq_false c] at hN
    have HN := Lib.hid hN; clear hN
    have Hr := Lib.hid hr
    clear hr c
    go_enter Tryz.func184, Tryz.ntmps184
    go_wp2_with fail
    refine (HN.out _).mono ?_
    rintro e w1 ⟨rfl, rfl⟩
    go_wp2
    go_ret
    exact ⟨ret_int Hr.out, (Below.refl _ _).alloc (Nat.le_refl _) _⟩

set_option maxHeartbeats 1000000 in
theorem ref_46 (k k' : Int) (hk : k' = 3 ∨ k' = 5) (h : On w g ad n cap down fuse fault fs) :
    Calls Tryz.prog 188 #[.pointer (some ⟨g, 0, none⟩), .agg (scells k nm dt z)] w fun e w' => e = .returned (.int .i64 (ref fs ⟨k', nm, dt, z⟩)) ∧ Below w.heap.size w w' := by
  obtain ⟨r, hr⟩ : ∃ r, ref fs ⟨k', nm, dt, z⟩ = r := ⟨_, rfl⟩
  rw [hr]
  have H := Lib.hid h; clear h
  cases hf : found fs nm with
  | some f =>
    have Hr := Lib.hid (show r = 0 by rw [← hr]; rcases hk with rfl | rfl; exact ref3 hf; exact ref5 hf)
    obtain ⟨gb, off, rfl, hgb, _⟩ := H.out.isat hf
    have HF := Lib.hid ((H.out.alloc (.cells (scells k nm dt z) 182)).file_yes hf)
    clear hr hf hk
    go_enter Tryz.func188, Tryz.ntmps188
    go_wp2_with fail
    refine (HF.out).mono ?_
    rintro e w1 ⟨rfl, hb⟩
    have Hb := Lib.hid (((Below.refl w.heap.size w).alloc (Nat.le_refl _) _).trans (hb.mono (by simp))); clear hb
    go_wp2
    go_ret
    exact ⟨ret_int Hr.out.symm, Hb.out⟩
  | none =>
    have Hr := Lib.hid (show r = 7 by rw [← hr]; exact refN (by omega) hf)
    have HF := Lib.hid ((H.out.alloc (.cells (scells k nm dt z) 182)).file_no hf)
    clear hr hf hk
    go_enter Tryz.func188, Tryz.ntmps188
    go_wp2_with fail
    refine (HF.out).mono ?_
    rintro e w1 ⟨rfl, hb⟩
    have Hb := Lib.hid (((Below.refl w.heap.size w).alloc (Nat.le_refl _) _).trans (hb.mono (by simp))); clear hb
    go_wp2
    go_ret
    exact ⟨ret_int Hr.out.symm, Hb.out⟩

theorem okF_size {f : F} (h : okF f) : f.data.size ≤ 262144 := h.2.1
set_option maxHeartbeats 1000000 in
theorem ref_44 (k : Int) (h : On w g ad n cap down fuse fault fs) (hs : dt.size ≤ 9223372036854775807) :
    Calls Tryz.prog 186 #[.pointer (some ⟨g, 0, none⟩), .agg (scells k nm dt z)] w fun e w' => e = .returned (.int .i64 (ref fs ⟨2, nm, dt, z⟩)) ∧ Below w.heap.size w w' := by
  obtain ⟨r, hr⟩ : ∃ r, ref fs ⟨2, nm, dt, z⟩ = r := ⟨_, rfl⟩
  rw [hr]
  have H := Lib.hid h; clear h
  cases hf : found fs nm with
  | some f =>
    have Hr := Lib.hid (hr.symm.trans (ref2 hf))
    have hz := okF_size (H.out.r.ok f (found_mem hf))
    obtain ⟨gb, off, rfl, hgb, hat⟩ := H.out.isat hf
    have Hat := Lib.hid (hat.keep hgb ((Below.refl _ w).alloc (Nat.le_refl _) (.cells (scells k nm dt z) 182)))
    have HX := Lib.hid (blk_new w (.cells (scells k nm dt z) 182))
    have HF := Lib.hid ((H.out.alloc (.cells (scells k nm dt z) 182)).file_yes hf)
    obtain ⟨P, hP⟩ : ∃ P, pos fs nm = P := ⟨_, rfl⟩
    rw [hP] at HF Hat
    have hgb' : gb < (w.alloc (.cells (scells k nm dt z) 182)).heap.size := by simp; omega
    have Hgb := Lib.hid hgb'
    clear hr hf hat hP hgb hgb'
    go_enter Tryz.func186, Tryz.ntmps186
    go_wp2_with fail
    refine (HF.out).mono ?_
    rintro e w1 ⟨rfl, hb⟩
    obtain ⟨q0, q1, q2⟩ := Hat.out.keep Hgb.out hb
    obtain ⟨x0, x1, x2, x3⟩ := box4 ((hb.block w.heap.size (by simp)).trans HX.out)
    have Hb := Lib.hid (((Below.refl w.heap.size w).alloc (Nat.le_refl _) _).trans (hb.mono (by simp))); clear hb
    by_cases hc : 262144 - f.data.size < dt.size
    · have Hr2 := Lib.hid (show r = 8 by rw [Hr.out, if_pos hc])
      have hc' : (262144 : Int) - (f.data.size : Int) < (dt.size : Int) := by omega
      clear hc Hr
      go_wp2
      go_quiet (fail)
      go_wp2
      go_ret
      exact ⟨ret_int Hr2.out.symm, below_drewN Hb.out _⟩
    · have Hr2 := Lib.hid (show r = 0 by rw [Hr.out, if_neg hc])
      have hc' : ¬ (262144 : Int) - (f.data.size : Int) < (dt.size : Int) := by omega
      clear hc Hr
      go_wp2
      go_quiet (fail)
      go_wp2
      go_ret
      exact ⟨ret_int Hr2.out.symm, below_drewN Hb.out _⟩
  | none =>
    have Hr := Lib.hid (show r = 7 by rw [← hr]; exact refN (by omega) hf)
    have HF := Lib.hid ((H.out.alloc (.cells (scells k nm dt z) 182)).file_no hf)
    clear hr hf
    go_enter Tryz.func186, Tryz.ntmps186
    go_wp2_with fail
    refine (HF.out).mono ?_
    rintro e w1 ⟨rfl, hb⟩
    have Hb := Lib.hid (((Below.refl w.heap.size w).alloc (Nat.le_refl _) _).trans (hb.mono (by simp))); clear hb
    go_wp2
    go_ret
    exact ⟨ret_int Hr.out.symm, Hb.out⟩

set_option maxHeartbeats 1000000 in
theorem ref_48 (k : Int) (h : On w g ad n cap down fuse fault fs) :
    Calls Tryz.prog 190 #[.pointer (some ⟨g, 0, none⟩), .agg (scells k nm dt z)] w fun e w' => e = .returned (.int .i64 (ref fs ⟨4, nm, dt, z⟩)) ∧ Below w.heap.size w w' := by
  obtain ⟨r, hr⟩ : ∃ r, ref fs ⟨4, nm, dt, z⟩ = r := ⟨_, rfl⟩
  rw [hr]
  have H := Lib.hid h; clear h
  cases hf : found fs nm with
  | some f =>
    have Hr := Lib.hid (hr.symm.trans (ref4 hf))
    have hz := okF_size (H.out.r.ok f (found_mem hf))
    obtain ⟨gb, off, rfl, hgb, hat⟩ := H.out.isat hf
    have Hat := Lib.hid (hat.keep hgb ((Below.refl _ w).alloc (Nat.le_refl _) (.cells (scells k nm dt z) 182)))
    have HX := Lib.hid (blk_new w (.cells (scells k nm dt z) 182))
    have HF := Lib.hid ((H.out.alloc (.cells (scells k nm dt z) 182)).file_yes hf)
    obtain ⟨P, hP⟩ : ∃ P, pos fs nm = P := ⟨_, rfl⟩
    rw [hP] at HF Hat
    have hgb' : gb < (w.alloc (.cells (scells k nm dt z) 182)).heap.size := by simp; omega
    have Hgb := Lib.hid hgb'
    clear hr hf hat hP hgb hgb'
    go_enter Tryz.func190, Tryz.ntmps190
    go_wp2_with fail
    refine (HF.out).mono ?_
    rintro e w1 ⟨rfl, hb⟩
    obtain ⟨q0, q1, q2⟩ := Hat.out.keep Hgb.out hb
    obtain ⟨x0, x1, x2, x3⟩ := box4 ((hb.block w.heap.size (by simp)).trans HX.out)
    have Hb := Lib.hid (((Below.refl w.heap.size w).alloc (Nat.le_refl _) _).trans (hb.mono (by simp))); clear hb
    by_cases hc0 : z < 0
    · have Hr2 := Lib.hid (show r = 2 by rw [Hr.out, if_pos (.inl hc0)])
      have hd : decide (z < 0) = true := decide_eq_true hc0
      clear Hr
      go_wp2
      go_quiet (fail)
      go_wp2
      go_ret
      exact ⟨ret_int Hr2.out.symm, below_drewN Hb.out _⟩
    · have hd : decide (z < 0) = false := decide_eq_false hc0
      by_cases hc : (f.data.size : Int) < z
      · have Hr2 := Lib.hid (show r = 2 by rw [Hr.out, if_pos (.inr hc)])
        clear Hr
        go_wp2
        go_quiet (fail)
        go_wp2
        go_ret
        exact ⟨ret_int Hr2.out.symm, below_drewN Hb.out _⟩
      · have Hr2 := Lib.hid (show r = 0 by rw [Hr.out, if_neg (by omega)])
        clear Hr
        go_wp2
        go_quiet (fail)
        go_wp2
        go_ret
        exact ⟨ret_int Hr2.out.symm, below_drewN Hb.out _⟩
  | none =>
    have Hr := Lib.hid (show r = 7 by rw [← hr]; exact refN (by omega) hf)
    have HF := Lib.hid ((H.out.alloc (.cells (scells k nm dt z) 182)).file_no hf)
    clear hr hf
    go_enter Tryz.func190, Tryz.ntmps190
    go_wp2_with fail
    refine (HF.out).mono ?_
    rintro e w1 ⟨rfl, hb⟩
    have Hb := Lib.hid (((Below.refl w.heap.size w).alloc (Nat.le_refl _) _).trans (hb.mono (by simp))); clear hb
    go_wp2
    go_ret
    exact ⟨ret_int Hr.out.symm, Hb.out⟩
end
end Go.Proofs.YtkhmdofeonlnpaaGreatDoor

/- THE WALKS OVER add, sync, cut. -/
namespace Go.Proofs.YtkhmdofeonlnpaaGreatDoor
open Go.RowKit
set_option maxRecDepth 100000
set_option linter.unusedVariables false
set_option linter.unusedSimpArgs false

theorem fc_set1 : ∀ (fs : List F) (i : Nat) (f : F) (x : ByteArray), fs[i]? = some f → (fs.flatMap fc).set (i * 3 + 1) (.string x) = (fs.set i ⟨f.name, x, f.syn⟩).flatMap fc
  | [], i, f, x, h => by simp at h
  | a :: fs, 0, f, x, h => by simp at h; subst h; simp [fc]
  | a :: fs, i + 1, f, x, h => by
    rw [List.set_cons_succ, List.flatMap_cons, List.flatMap_cons, ← fc_set1 fs i f x (by simpa using h), List.set_append]
    rw [if_neg (by simp [fc]; omega)]
    congr 2
    simp [fc]; omega
theorem fc_set2 : ∀ (fs : List F) (i : Nat) (f : F) (x : Int), fs[i]? = some f → (fs.flatMap fc).set (i * 3 + 2) (.int .i64 x) = (fs.set i ⟨f.name, f.data, x⟩).flatMap fc
  | [], i, f, x, h => by simp at h
  | a :: fs, 0, f, x, h => by simp at h; subst h; simp [fc]
  | a :: fs, i + 1, f, x, h => by
    rw [List.set_cons_succ, List.flatMap_cons, List.flatMap_cons, ← fc_set2 fs i f x (by simpa using h), List.set_append]
    rw [if_neg (by simp [fc]; omega)]
    congr 2
    simp [fc]; omega
section
variable {w w' : World} {base gb n cap : Nat} {fs : List F}
theorem FRow.fz (h : FRow w base (.slice (some ⟨gb, 0, none⟩) n cap) fs) (j : Nat) : w.frozen? ⟨gb, j, none⟩ = false := by
  obtain ⟨ad, cap', hv, _⟩ := h.fls
  simp only [Value.slice.injEq] at hv
  obtain ⟨_, rfl, _⟩ := hv
  exact World.ownsRow.frozenAt h j
theorem FRow.len {ad : Option Addr} (h : FRow w base (.slice ad n cap) fs) : n = fs.length := by
  obtain ⟨ad', cap', hv, _⟩ := h.fls
  simp only [Value.slice.injEq] at hv
  exact hv.2.1
theorem FRow.put1 (h : FRow w base (.slice (some ⟨gb, 0, none⟩) n cap) fs) {i : Nat} {f : F} (hf : fs[i]? = some f) (x : ByteArray) :
    FRow (w.setCell ⟨gb, i * 3 + 1, none⟩ (.string x)) base (.slice (some ⟨gb, 0, none⟩) n cap) (fs.set i ⟨f.name, x, f.syn⟩) ∧ w.grownBy (w.setCell ⟨gb, i * 3 + 1, none⟩ (.string x)) (some gb) := by
  have hn := h.len
  subst hn
  have := World.ownsRow.stored h (i * 3 + 1) (.string x)
  rw [fc_set1 fs i f x hf] at this
  refine ⟨?_, this.2⟩
  unfold FRow
  rw [List.length_set]
  exact this.1
theorem FRow.put2 (h : FRow w base (.slice (some ⟨gb, 0, none⟩) n cap) fs) {i : Nat} {f : F} (hf : fs[i]? = some f) (x : Int) :
    FRow (w.setCell ⟨gb, i * 3 + 2, none⟩ (.int .i64 x)) base (.slice (some ⟨gb, 0, none⟩) n cap) (fs.set i ⟨f.name, f.data, x⟩) ∧ w.grownBy (w.setCell ⟨gb, i * 3 + 2, none⟩ (.int .i64 x)) (some gb) := by
  have hn := h.len
  subst hn
  have := World.ownsRow.stored h (i * 3 + 2) (.int .i64 x)
  rw [fc_set2 fs i f x hf] at this
  refine ⟨?_, this.2⟩
  unfold FRow
  rw [List.length_set]
  exact this.1
theorem FRow.below {v : Value} (h : FRow w base v fs) (hb : Below w.heap.size w w') : FRow w' base v fs :=
  h.kept (row := none) ⟨hb.os, hb.tape, hb.output, hb.size, fun k hk _ => hb.block k hk⟩ (by cases e : v.ownBlock <;> simp)
theorem Dk.far {g T : Nat} {v : Value} {down : Bool} {fuse fault : Int} (h : Dk w g T v down fuse fault) {gb o : Nat} {u : Value} (hne : g ≠ gb) : Dk (w.setCell ⟨gb, o, none⟩ u) g T v down fuse fault :=
  (Below.heap_setCell w ⟨gb, o, none⟩ u g hne).trans h
end

section
variable (w : World) (g base gb n cap : Nat) (down : Bool) (fuse fault : Int) (fs : List F) (nm dt : ByteArray) (z : Int) (f : F)
set_option maxHeartbeats 4000000 in
theorem add_any (k : Int) (h : On w g (some ⟨gb, 0, none⟩) n cap down fuse fault fs) (hw : FRow w base (.slice (some ⟨gb, 0, none⟩) n cap) fs) (hne : g ≠ gb) (hf : found fs nm = some f) (hs : dt.size ≤ 262144) :
    Calls Tryz.prog 187 #[.pointer (some ⟨g, 0, none⟩), .agg (scells k nm dt z)] w fun e w' => e = .returned (.tuple #[]) ∧ Dk w' g 91 (.slice (some ⟨gb, 0, none⟩) n cap) down fuse fault ∧
      FRow w' base (.slice (some ⟨gb, 0, none⟩) n cap) (fs.set (pos fs nm) ⟨f.name, f.data ++ dt, f.syn⟩) ∧ Below base w w' := by
  have hz := okF_size (h.r.ok f (found_mem hf))
  obtain ⟨gb', off', e, hgb, hat⟩ := h.isat hf
  injection e with e
  injection e with e1 e2
  subst e1 e2
  have Hbase := Lib.hid (show base ≤ w.heap.size by have := hw.lt gb rfl; omega)
  have Hgb2 := Lib.hid (show base ≤ gb from (hw.lt gb rfl).1)
  have HfP := Lib.hid (found_some hf).1
  obtain ⟨P, hP⟩ : ∃ P, pos fs nm = P := ⟨_, rfl⟩
  rw [hP] at hat HfP ⊢
  have HA := Lib.hid hat
  have Hgb := Lib.hid hgb
  have H := Lib.hid h
  have HW := Lib.hid hw
  have hcat : ¬ 9223372036854775807 < f.data.size + dt.size := by omega
  have Hf := Lib.hid hf
  have HP := Lib.hid hP
  clear h hw hat hgb hf hP
  go_enter Tryz.func187, Tryz.ntmps187
  go_wp2
  refine wp_region_any (by kernel_rfl) ?_
  obtain ⟨X9, hX⟩ : ∃ X, (w.alloc (.cells (scells k nm dt z) 182)).drew = X := ⟨_, rfl⟩
  change wpAny _ _ _ _ _ _ _ ((w.alloc (.cells (scells k nm dt z) 182)).drew)
  rw [hX]
  have hBX : Below w.heap.size w X9 := by rw [← hX]; exact ((Below.refl _ w).alloc (Nat.le_refl _) _).drew
  have hxx : X9.heap[w.heap.size]? = some (.cells (scells k nm dt z) 182) := by rw [← hX]; exact blk_new w _
  have HF := Lib.hid ((H.out.keep hBX).file_yes Hf.out)
  rw [HP.out] at HF
  obtain ⟨x0, x1, x2, x3⟩ := box4 hxx
  have HXX := Lib.hid hxx
  have HBX := Lib.hid hBX
  clear hX hBX hxx x0 x3
  refine wpAny_take (i := 0) (v := ?va1) rfl (by kernel_rfl) (by kernel_rfl) (by kernel_rfl) (fun _ _ _ h => h) (Or.inl ⟨by kernel_rfl, ?ha1⟩) ?ra1
  case ha1 => (intro w; go_simp; first | done | (with_reducible rfl))
  refine wpAny_take (i := 1) (v := ?va2) rfl (by kernel_rfl) (by kernel_rfl) (by kernel_rfl) (fun _ _ _ h => h) (Or.inl ⟨by kernel_rfl, ?ha2⟩) ?ra2
  case ha2 => (intro w; go_simp; first | done | (with_reducible rfl))
  refine wpAny_take (i := 7) (v := ?va3) rfl (by kernel_rfl) (by kernel_rfl) (by kernel_rfl) (fun _ _ _ h => h) (Or.inl ⟨by kernel_rfl, ?ha3⟩) ?ra3
  case ha3 => (intro w; go_simp; first | done | (with_reducible rfl))
  refine wpAny_ready (rs := [2, 8]) (by kernel_rfl) (by simp) ?_
  refine AllReady.cons rfl (fun K hK => ?_) ?_
  · skip
    go_simp
    refine hK _ _ ?_
    clear hK K
    refine wpAny_ready (rs := [3, 8]) (by kernel_rfl) (by simp) ?_
    refine AllReady.cons rfl (fun K hK => ?_) ?_
    · skip
      go_simp
      go_at_call 217
      refine (HF.out).mono ?_
      rintro e w1 ⟨rfl, hb⟩
      obtain ⟨y0, y1, y2, y3⟩ := box4 ((hb.block w.heap.size (World.block_lt_of_cell? X9 _ x1)).trans HXX.out)
      have Hb := Lib.hid (HBX.out.trans (hb.mono HBX.out.size))
      have HR := Lib.hid (HW.out.below Hb.out)
      obtain ⟨q0, q1, q2⟩ := (HA.out.keep Hgb.out Hb.out)
      have fz := HR.out.fz (P * 3 + 1)
      rw [Nat.zero_add] at q0 q1 q2
      clear hb y0 y3 x1
      refine hK _ _ ?_
      clear hK K
      refine wpAny_take (i := 4) (v := ?va4) rfl (by kernel_rfl) (by kernel_rfl) (by kernel_rfl) (fun _ _ _ h => h) (Or.inl ⟨by kernel_rfl, ?ha4⟩) ?ra4
      case ha4 => (intro w; go_simp; first | done | (with_reducible rfl))
      refine wpAny_take (i := 5) (v := ?va5) rfl (by kernel_rfl) (by kernel_rfl) (by kernel_rfl) (fun _ _ _ h => h) (Or.inl ⟨by kernel_rfl, ?ha5⟩) ?ra5
      case ha5 => (intro w; go_simp; first | done | (with_reducible rfl))
      refine wpAny_ready (rs := [6, 8]) (by kernel_rfl) (by simp) ?_
      refine AllReady.cons rfl (fun K hK => ?_) ?_
      · skip
        go_simp
        refine hK _ _ ?_
        clear hK K
        refine wpAny_ready (rs := [8]) (by kernel_rfl) (by simp) ?_
        refine AllReady.cons rfl (fun K hK => ?_) AllReady.nil
        go_simp
        refine hK _ _ ?_
        clear hK K
        refine wpAny_take (i := 9) (v := ?va6) rfl (by kernel_rfl) (by kernel_rfl) (by kernel_rfl) (fun _ _ _ h => h) (Or.inl ⟨by kernel_rfl, ?ha6⟩) ?ra6
        case ha6 => (intro w; go_simp; first | done | (with_reducible rfl))
        refine wpAny_take (i := 10) (v := ?va7) rfl (by kernel_rfl) (by kernel_rfl) (by kernel_rfl) (fun _ _ _ h => h) (Or.inl ⟨by kernel_rfl, ?ha7⟩) ?ra7
        case ha7 => (intro w; go_simp; first | done | (with_reducible rfl))
        refine wpAny_take (i := 11) (v := ?va8) rfl (by kernel_rfl) (by kernel_rfl) (by kernel_rfl) (fun _ _ _ h => h) (Or.inl ⟨by kernel_rfl, ?ha8⟩) ?ra8
        case ha8 => (intro w; go_simp; first | done | (with_reducible rfl))
        refine wpAny_ready (rs := [12]) (by kernel_rfl) (by simp) ?_
        refine AllReady.cons rfl (fun K hK => ?_) AllReady.nil
        go_simp
        refine hK _ _ ?_
        clear hK K
        refine wpAny_done (by kernel_rfl) ?_ _
        try go_simp
        go_end0
        refine ⟨rfl, ?_, ?_, ?_⟩
        · exact (H.out.d.keep Hb.out H.out.d.lt).far (by omega)
        · exact (HR.out.put1 HfP.out _).1
        · exact (Hb.out.mono Hbase.out).setCell (by exact Hgb2.out) _
      refine AllReady.cons rfl (fun K hK => ?_) AllReady.nil
      go_simp
      refine hK _ _ ?_
      clear hK K
      refine wpAny_ready (rs := [6]) (by kernel_rfl) (by simp) ?_
      refine AllReady.cons rfl (fun K hK => ?_) AllReady.nil
      go_simp
      refine hK _ _ ?_
      clear hK K
      refine wpAny_take (i := 9) (v := ?va9) rfl (by kernel_rfl) (by kernel_rfl) (by kernel_rfl) (fun _ _ _ h => h) (Or.inl ⟨by kernel_rfl, ?ha9⟩) ?ra9
      case ha9 => (intro w; go_simp; first | done | (with_reducible rfl))
      refine wpAny_take (i := 10) (v := ?va10) rfl (by kernel_rfl) (by kernel_rfl) (by kernel_rfl) (fun _ _ _ h => h) (Or.inl ⟨by kernel_rfl, ?ha10⟩) ?ra10
      case ha10 => (intro w; go_simp; first | done | (with_reducible rfl))
      refine wpAny_take (i := 11) (v := ?va11) rfl (by kernel_rfl) (by kernel_rfl) (by kernel_rfl) (fun _ _ _ h => h) (Or.inl ⟨by kernel_rfl, ?ha11⟩) ?ra11
      case ha11 => (intro w; go_simp; first | done | (with_reducible rfl))
      refine wpAny_ready (rs := [12]) (by kernel_rfl) (by simp) ?_
      refine AllReady.cons rfl (fun K hK => ?_) AllReady.nil
      go_simp
      refine hK _ _ ?_
      clear hK K
      refine wpAny_done (by kernel_rfl) ?_ _
      try go_simp
      go_end0
      refine ⟨rfl, ?_, ?_, ?_⟩
      · exact (H.out.d.keep Hb.out H.out.d.lt).far (by omega)
      · exact (HR.out.put1 HfP.out _).1
      · exact (Hb.out.mono Hbase.out).setCell (by exact Hgb2.out) _
    refine AllReady.cons rfl (fun K hK => ?_) AllReady.nil
    go_simp
    refine hK _ _ ?_
    clear hK K
    refine wpAny_ready (rs := [3]) (by kernel_rfl) (by simp) ?_
    refine AllReady.cons rfl (fun K hK => ?_) AllReady.nil
    go_simp
    go_at_call 217
    refine (HF.out).mono ?_
    rintro e w1 ⟨rfl, hb⟩
    obtain ⟨y0, y1, y2, y3⟩ := box4 ((hb.block w.heap.size (World.block_lt_of_cell? X9 _ x1)).trans HXX.out)
    have Hb := Lib.hid (HBX.out.trans (hb.mono HBX.out.size))
    have HR := Lib.hid (HW.out.below Hb.out)
    obtain ⟨q0, q1, q2⟩ := (HA.out.keep Hgb.out Hb.out)
    have fz := HR.out.fz (P * 3 + 1)
    rw [Nat.zero_add] at q0 q1 q2
    clear hb y0 y3 x1
    refine hK _ _ ?_
    clear hK K
    refine wpAny_take (i := 4) (v := ?va12) rfl (by kernel_rfl) (by kernel_rfl) (by kernel_rfl) (fun _ _ _ h => h) (Or.inl ⟨by kernel_rfl, ?ha12⟩) ?ra12
    case ha12 => (intro w; go_simp; first | done | (with_reducible rfl))
    refine wpAny_take (i := 5) (v := ?va13) rfl (by kernel_rfl) (by kernel_rfl) (by kernel_rfl) (fun _ _ _ h => h) (Or.inl ⟨by kernel_rfl, ?ha13⟩) ?ra13
    case ha13 => (intro w; go_simp; first | done | (with_reducible rfl))
    refine wpAny_ready (rs := [6]) (by kernel_rfl) (by simp) ?_
    refine AllReady.cons rfl (fun K hK => ?_) AllReady.nil
    go_simp
    refine hK _ _ ?_
    clear hK K
    refine wpAny_take (i := 9) (v := ?va14) rfl (by kernel_rfl) (by kernel_rfl) (by kernel_rfl) (fun _ _ _ h => h) (Or.inl ⟨by kernel_rfl, ?ha14⟩) ?ra14
    case ha14 => (intro w; go_simp; first | done | (with_reducible rfl))
    refine wpAny_take (i := 10) (v := ?va15) rfl (by kernel_rfl) (by kernel_rfl) (by kernel_rfl) (fun _ _ _ h => h) (Or.inl ⟨by kernel_rfl, ?ha15⟩) ?ra15
    case ha15 => (intro w; go_simp; first | done | (with_reducible rfl))
    refine wpAny_take (i := 11) (v := ?va16) rfl (by kernel_rfl) (by kernel_rfl) (by kernel_rfl) (fun _ _ _ h => h) (Or.inl ⟨by kernel_rfl, ?ha16⟩) ?ra16
    case ha16 => (intro w; go_simp; first | done | (with_reducible rfl))
    refine wpAny_ready (rs := [12]) (by kernel_rfl) (by simp) ?_
    refine AllReady.cons rfl (fun K hK => ?_) AllReady.nil
    go_simp
    refine hK _ _ ?_
    clear hK K
    refine wpAny_done (by kernel_rfl) ?_ _
    try go_simp
    go_end0
    refine ⟨rfl, ?_, ?_, ?_⟩
    · exact (H.out.d.keep Hb.out H.out.d.lt).far (by omega)
    · exact (HR.out.put1 HfP.out _).1
    · exact (Hb.out.mono Hbase.out).setCell (by exact Hgb2.out) _
  refine AllReady.cons rfl (fun K hK => ?_) AllReady.nil
  go_simp
  refine hK _ _ ?_
  clear hK K
  refine wpAny_ready (rs := [2]) (by kernel_rfl) (by simp) ?_
  refine AllReady.cons rfl (fun K hK => ?_) AllReady.nil
  go_simp
  refine hK _ _ ?_
  clear hK K
  refine wpAny_ready (rs := [3]) (by kernel_rfl) (by simp) ?_
  refine AllReady.cons rfl (fun K hK => ?_) AllReady.nil
  go_simp
  go_at_call 217
  refine (HF.out).mono ?_
  rintro e w1 ⟨rfl, hb⟩
  obtain ⟨y0, y1, y2, y3⟩ := box4 ((hb.block w.heap.size (World.block_lt_of_cell? X9 _ x1)).trans HXX.out)
  have Hb := Lib.hid (HBX.out.trans (hb.mono HBX.out.size))
  have HR := Lib.hid (HW.out.below Hb.out)
  obtain ⟨q0, q1, q2⟩ := (HA.out.keep Hgb.out Hb.out)
  have fz := HR.out.fz (P * 3 + 1)
  rw [Nat.zero_add] at q0 q1 q2
  clear hb y0 y3 x1
  refine hK _ _ ?_
  clear hK K
  refine wpAny_take (i := 4) (v := ?va17) rfl (by kernel_rfl) (by kernel_rfl) (by kernel_rfl) (fun _ _ _ h => h) (Or.inl ⟨by kernel_rfl, ?ha17⟩) ?ra17
  case ha17 => (intro w; go_simp; first | done | (with_reducible rfl))
  refine wpAny_take (i := 5) (v := ?va18) rfl (by kernel_rfl) (by kernel_rfl) (by kernel_rfl) (fun _ _ _ h => h) (Or.inl ⟨by kernel_rfl, ?ha18⟩) ?ra18
  case ha18 => (intro w; go_simp; first | done | (with_reducible rfl))
  refine wpAny_ready (rs := [6]) (by kernel_rfl) (by simp) ?_
  refine AllReady.cons rfl (fun K hK => ?_) AllReady.nil
  go_simp
  refine hK _ _ ?_
  clear hK K
  refine wpAny_take (i := 9) (v := ?va19) rfl (by kernel_rfl) (by kernel_rfl) (by kernel_rfl) (fun _ _ _ h => h) (Or.inl ⟨by kernel_rfl, ?ha19⟩) ?ra19
  case ha19 => (intro w; go_simp; first | done | (with_reducible rfl))
  refine wpAny_take (i := 10) (v := ?va20) rfl (by kernel_rfl) (by kernel_rfl) (by kernel_rfl) (fun _ _ _ h => h) (Or.inl ⟨by kernel_rfl, ?ha20⟩) ?ra20
  case ha20 => (intro w; go_simp; first | done | (with_reducible rfl))
  refine wpAny_take (i := 11) (v := ?va21) rfl (by kernel_rfl) (by kernel_rfl) (by kernel_rfl) (fun _ _ _ h => h) (Or.inl ⟨by kernel_rfl, ?ha21⟩) ?ra21
  case ha21 => (intro w; go_simp; first | done | (with_reducible rfl))
  refine wpAny_ready (rs := [12]) (by kernel_rfl) (by simp) ?_
  refine AllReady.cons rfl (fun K hK => ?_) AllReady.nil
  go_simp
  refine hK _ _ ?_
  clear hK K
  refine wpAny_done (by kernel_rfl) ?_ _
  try go_simp
  go_end0
  refine ⟨rfl, ?_, ?_, ?_⟩
  · exact (H.out.d.keep Hb.out H.out.d.lt).far (by omega)
  · exact (HR.out.put1 HfP.out _).1
  · exact (Hb.out.mono Hbase.out).setCell (by exact Hgb2.out) _

set_option maxHeartbeats 1000000 in
theorem sync_any (k : Int) (h : On w g (some ⟨gb, 0, none⟩) n cap down fuse fault fs) (hw : FRow w base (.slice (some ⟨gb, 0, none⟩) n cap) fs) (hne : g ≠ gb) (hf : found fs nm = some f) :
    Calls Tryz.prog 189 #[.pointer (some ⟨g, 0, none⟩), .agg (scells k nm dt z)] w fun e w' => e = .returned (.tuple #[]) ∧ Dk w' g 91 (.slice (some ⟨gb, 0, none⟩) n cap) down fuse fault ∧
      FRow w' base (.slice (some ⟨gb, 0, none⟩) n cap) (fs.set (pos fs nm) ⟨f.name, f.data, f.data.size⟩) ∧ Below base w w' := by
  have hz := okF_size (h.r.ok f (found_mem hf))
  obtain ⟨gb', off', e, hgb, hat⟩ := h.isat hf
  injection e with e
  injection e with e1 e2
  subst e1 e2
  have Hbase := Lib.hid (show base ≤ w.heap.size by have := hw.lt gb rfl; omega)
  have Hgb2 := Lib.hid (show base ≤ gb from (hw.lt gb rfl).1)
  have HfP := Lib.hid (found_some hf).1
  have HF := Lib.hid ((h.alloc (.cells (scells k nm dt z) 182)).file_yes hf)
  obtain ⟨P, hP⟩ : ∃ P, pos fs nm = P := ⟨_, rfl⟩
  rw [hP] at hat HfP HF ⊢
  have HA := Lib.hid hat
  have Hgb := Lib.hid hgb
  have H := Lib.hid h
  have HW := Lib.hid hw
  clear h hw hat hgb hP hf
  go_enter Tryz.func189, Tryz.ntmps189
  go_wp2_with fail
  refine (HF.out).mono ?_
  rintro e w1 ⟨rfl, hb⟩
  have Hb := Lib.hid (((Below.refl _ w).alloc (Nat.le_refl _) (.cells (scells k nm dt z) 182)).trans (hb.mono (by simp)))
  have HR := Lib.hid (HW.out.below Hb.out)
  obtain ⟨q0, q1, q2⟩ := (HA.out.keep Hgb.out Hb.out)
  have fz := HR.out.fz (P * 3 + 2)
  rw [Nat.zero_add] at q0 q1 q2
  clear hb
  go_wp2
  go_end0
  refine ⟨rfl, ?_, ?_, ?_⟩
  · exact (H.out.d.keep Hb.out H.out.d.lt).far (by omega)
  · exact (HR.out.put2 HfP.out _).1
  · exact (Hb.out.mono Hbase.out).setCell (by exact Hgb2.out) _

set_option maxHeartbeats 4000000 in
theorem cut_any (k : Int) (h : On w g (some ⟨gb, 0, none⟩) n cap down fuse fault fs) (hw : FRow w base (.slice (some ⟨gb, 0, none⟩) n cap) fs) (hne : g ≠ gb) (hf : found fs nm = some f) (hz0 : 0 ≤ z) (hz1 : z ≤ (f.data.size : Int)) :
    Calls Tryz.prog 191 #[.pointer (some ⟨g, 0, none⟩), .agg (scells k nm dt z)] w fun e w' => e = .returned (.tuple #[]) ∧ Dk w' g 91 (.slice (some ⟨gb, 0, none⟩) n cap) down fuse fault ∧
      FRow w' base (.slice (some ⟨gb, 0, none⟩) n cap) (fs.set (pos fs nm) ⟨f.name, f.data.extract 0 z.toNat, z⟩) ∧ Below base w w' := by
  have hz := okF_size (h.r.ok f (found_mem hf))
  obtain ⟨gb', off', e, hgb, hat⟩ := h.isat hf
  injection e with e
  injection e with e1 e2
  subst e1 e2
  have Hbase := Lib.hid (show base ≤ w.heap.size by have := hw.lt gb rfl; omega)
  have Hgb2 := Lib.hid (show base ≤ gb from (hw.lt gb rfl).1)
  have HfP := Lib.hid (found_some hf).1
  have HF := Lib.hid ((h.alloc (.cells (scells k nm dt z) 182)).file_yes hf)
  obtain ⟨P, hP⟩ : ∃ P, pos fs nm = P := ⟨_, rfl⟩
  rw [hP] at hat HfP HF ⊢
  have HA := Lib.hid hat
  have Hgb := Lib.hid hgb
  have H := Lib.hid h
  have HW := Lib.hid hw
  clear h hw hat hgb hP hf
  have hxx := blk_new w (.cells (scells k nm dt z) 182)
  have HXX := Lib.hid hxx; clear hxx
  go_enter Tryz.func191, Tryz.ntmps191
  go_wp2_with fail
  refine (HF.out).mono ?_
  rintro e w1 ⟨rfl, hb⟩
  have Hb := Lib.hid (((Below.refl _ w).alloc (Nat.le_refl _) (.cells (scells k nm dt z) 182)).trans (hb.mono (by simp)))
  have HR := Lib.hid (HW.out.below Hb.out)
  obtain ⟨q0, q1, q2⟩ := (HA.out.keep Hgb.out Hb.out)
  have fz := HR.out.fz (P * 3 + 1)
  have fz2 := HR.out.fz (P * 3 + 2)
  rw [Nat.zero_add] at q0 q1 q2
  obtain ⟨y0, y1, y2, y3⟩ := box4 ((hb.block w.heap.size (by simp)).trans HXX.out)
  have hgbw : gb ≠ w.heap.size := by have := Hgb.out; omega
  have hgbw' : w.heap.size ≠ gb := by omega
  clear hb y0 y2
  go_wp2
  go_region
  go_end0
  refine ⟨rfl, ?_, ?_, ?_⟩
  · exact ((H.out.d.keep Hb.out H.out.d.lt).far (gb := gb) (o := P * 3 + 1) (u := .string (f.data.extract 0 z.toNat)) (by omega)).far (by omega)
  · have h1 := (HR.out.put1 HfP.out (f.data.extract 0 z.toNat)).1
    have hlt : P < fs.length := (List.getElem?_eq_some_iff.1 HfP.out).1
    have h2 := (h1.put2 (i := P) (f := ⟨f.name, f.data.extract 0 z.toNat, f.syn⟩) (by rw [List.getElem?_set_self hlt]) z).1
    rw [List.set_set] at h2
    exact h2
  · exact (((Hb.out.mono Hbase.out).setCell (by exact Hgb2.out) _).setCell (by exact Hgb2.out) _).drew
end
end Go.Proofs.YtkhmdofeonlnpaaGreatDoor

/- THE WALKS OVER put, create, remove. -/
namespace Go.Proofs.YtkhmdofeonlnpaaGreatDoor
open Go.RowKit
set_option maxRecDepth 100000
set_option linter.unusedVariables false
set_option linter.unusedSimpArgs false

theorem op_app {P : Program} {w w1 : World} {o : Oper} {a : Act} {K : Act → World → Prop} {Q : Exit → Act → World → Prop} (s x : Operand) {T U : TypeId} {v1 : Value} (S V : Value) (hs : a.eval s = S) (hx : a.eval x = V)
    (ho : o.op = .call { callee := .builtin .append, args := #[s, x], argTypes := #[T, U] }) (hr : (Builtin.append_ #[T, U] o.type #[S, V]).run P w = .ok v1 w1) (h : K (a.put o.dst v1) w1) : Oper.wp P o a w K Q := by
  unfold Oper.wp execOp
  simp only [ho, resolve, invoke, builtin, Sem.run_bind, Sem.run_pure, Result.andThen_ok, List.map_toArray, List.map_cons, List.map_nil, hs, hx, hr]
  exact h

/-- append onto a slice without room -/
theorem app_full (X : World) (ao : Option Addr) (k : Nat) (olds news : List Value) (x : Value) (m : Nat) (ho : olds.length = k * 3)
    (hold : (Builtin.firstCells 3 k (.slice ao k k)).run Tryz.prog X.drew = .ok olds.toArray X.drew) (hs : Src Tryz.prog 3 22 x m news X) (hm : 0 < m) (hb : k + m ≤ 1000000) :
    ∃ v w1, (∀ ty, (Builtin.append_ #[22, 22] ty #[.slice ao k k, x]).run Tryz.prog X = .ok v w1) ∧ w1.ownsRow X.heap.size 107 3 v (k + m) (olds ++ news) ∧ X.grownBy w1 none := by
  obtain ⟨i0, hi, hz0, hz1, hz2⟩ := info_parts Tryz.info107
  have hlen : (olds ++ news).length = (k + m) * 3 := by rw [List.length_append, ho, hs.newsLen, Nat.add_mul]
  refine ⟨_, _, fun ty => run_append_grow_src X 22 22 ty 107 i0 _ Tryz.underlying22 hi hz0 ao k k olds (by rw [hz1]; exact hold) x m news (by rw [hz1]; exact hs) (by omega) (by omega) (by rw [hz2]; exact growslice_fits (by omega) (by omega)), ?_, ?_⟩
  · have hge := grownCap_ge X (k + m) k 107
    have hcm : grownCap X (k + m) k 107 ≤ maxLen := grownCap_le_maxLen X (k + m) k 107 (by simp [maxLen]; omega)
    refine ⟨hlen, .inr ⟨X.heap.size, _, _, rfl, Nat.le_refl _, heap_alloc_new X.drew _, hge, hcm, ?_, ?_⟩⟩
    · simp only [Array.size_append, List.size_toArray, size_zeroCells, hlen]
      simp only [Value.cells, List.size_toArray, List.length_cons, List.length_nil]
      rw [← Nat.add_mul]
      congr 1
      omega
    · simp only [Array.toList_append]
      rw [← hlen]
      exact List.take_left
  · exact ⟨rfl, rfl, rfl, by simp, fun j hj _ => heap_alloc_old X.drew _ hj⟩

/-- the slice from e on -/
def restV (gb e n cap : Nat) : Value := if e = cap then .slice (some ⟨gb, 0, none⟩) 0 0 else .slice (some ⟨gb, e * 3, none⟩) (n - e) (cap - e)
theorem flat_drop (fs : List F) (e : Nat) : (fs.drop e).flatMap fc = (fs.flatMap fc).drop (e * 3) := by
  induction fs generalizing e with
  | nil => simp
  | cons a t ih =>
    cases e with
    | zero => simp
    | succ e =>
      rw [List.drop_succ_cons, ih, List.flatMap_cons, List.drop_append]
      have h1 : (fc a).length = 3 := rfl
      have h2 : (fc a).drop ((e + 1) * 3) = [] := List.drop_of_length_le (by rw [h1]; omega)
      rw [h2, h1, List.nil_append, show (e + 1) * 3 - 3 = e * 3 by omega]
theorem flat_take (fs : List F) (e : Nat) : (fs.take e).flatMap fc = (fs.flatMap fc).take (e * 3) := by
  induction fs generalizing e with
  | nil => simp
  | cons a t ih =>
    cases e with
    | zero => simp
    | succ e =>
      rw [List.take_succ_cons, List.flatMap_cons, ih, List.flatMap_cons, List.take_append]
      have h1 : (fc a).length = 3 := rfl
      have h2 : (fc a).take ((e + 1) * 3) = fc a := List.take_of_length_le (by rw [h1]; omega)
      rw [h2, h1, show (e + 1) * 3 - 3 = e * 3 by omega]
theorem rest_src {w : World} {gb n cap e B : Nat} {fs : List F} (hn : n = fs.length) (he : e ≤ n) (hc : n ≤ cap) (hf : Fls w B (some ⟨gb, 0, none⟩) fs) : Src Tryz.prog 3 22 (restV gb e n cap) (n - e) ((fs.drop e).flatMap fc) w := by
  have hl : ((fs.drop e).flatMap fc).length = (n - e) * 3 := by rw [fc_len, List.length_drop, hn]
  unfold restV
  by_cases h : e = cap
  · rw [if_pos h]
    have h0 : n - e = 0 := by omega
    rw [h0] at hl ⊢
    have hnil : (fs.drop e).flatMap fc = [] := List.eq_nil_of_length_eq_zero (by omega)
    rw [hnil]
    exact Src.ofSlice _ Tryz.underlying22 _ 0 0 [] rfl (fun j u hu => by simp at hu) (fun u hu => by cases hu)
  · rw [if_neg h]
    refine Src.ofSlice _ Tryz.underlying22 _ (n - e) (cap - e) _ hl (fun j u hu => ?_) (fc_one _)
    have hne : fs ≠ [] := by rintro rfl; simp at hu
    obtain ⟨g', off', e', hg, hcell⟩ := hf.cells hne
    injection e' with e'
    injection e' with e1 e2
    subst e1 e2
    rw [Addr.add_lit]
    rw [flat_drop, List.getElem?_drop] at hu
    have := hcell _ u hu
    rwa [Nat.zero_add] at this
theorem head_cells {w : World} {gb at_ B : Nat} {fs : List F} (hat : at_ ≤ fs.length) (hf : Fls w B (some ⟨gb, 0, none⟩) fs) : (Builtin.firstCells 3 at_ (.slice (some ⟨gb, 0, none⟩) at_ at_)).run Tryz.prog w = .ok ((fs.take at_).flatMap fc).toArray w := by
  refine run_firstCells_some w 3 at_ _ at_ at_ _ (by rw [fc_len, List.length_take]; congr 1; omega) (fun j u hu => ?_)
  have hne : fs ≠ [] := by rintro rfl; simp at hu
  obtain ⟨g', off', e', hg, hcell⟩ := hf.cells hne
  injection e' with e'
  injection e' with e1 e2
  subst e1 e2
  rw [Addr.add_lit, Nat.zero_add]
  rw [flat_take, List.getElem?_take] at hu
  by_cases hj : j < at_ * 3
  · rw [if_pos hj] at hu
    have := hcell _ u hu
    rwa [Nat.zero_add] at this
  · rw [if_neg hj] at hu; cases hu

/-- what the two appends come to -/
def Two (X : World) (S x R : Value) (v1 : Value) (w1 : World) (ad2 : Option Addr) (n2 cap2 : Nat) (w2 : World) (out : List F) : Prop :=
  (∀ ty, (Builtin.append_ #[22, 22] ty #[S, x]).run Tryz.prog X = .ok v1 w1) ∧ (∀ ty, (Builtin.append_ #[22, 22] ty #[v1, R]).run Tryz.prog w1 = .ok (.slice ad2 n2 cap2) w2) ∧
  Below X.heap.size X w1 ∧ Below X.heap.size X w2 ∧ Inp w2 w2.heap.size ad2 n2 cap2 out ∧ ∀ b, (Value.slice ad2 n2 cap2).ownBlock = some b → (X.heap.size ≤ b ∨ some b = S.ownBlock) ∧ Free w2 b
theorem Inp.of_row {w : World} {base : Nat} {v : Value} {fs : List F} (h : FRow w base v fs) : ∃ ad cap, v = .slice ad fs.length cap ∧ Inp w w.heap.size ad fs.length cap fs := by
  obtain ⟨ad, cap, hv, hc, hnil, hf⟩ := h.fls
  exact ⟨ad, cap, hv, rfl, hc, hnil, hf⟩
theorem FRow.of_own {w : World} {base n : Nat} {v : Value} {fs : List F} (h : w.ownsRow base 107 3 v n (fs.flatMap fc)) : FRow w base v fs := by
  have hl := h.1
  rw [fc_len] at hl
  have : n = fs.length := by omega
  subst this
  exact h
theorem grown_below {w w' : World} (h : w.grownBy w' none) : Below w.heap.size w w' := ⟨h.os, h.tape, h.output, h.size, fun k hk => h.block k hk (by simp)⟩

/-- one file more, at a place -/
theorem two_ins (X : World) (gb n cap at_ e : Nat) (fs : List F) (f0 : F) (x : Value) (hn : n = fs.length) (hat : at_ ≤ n) (he : e ≤ n) (hc : n ≤ cap) (hb : n ≤ 1000) (hf : Fls X X.heap.size (some ⟨gb, 0, none⟩) fs) (hx : Src Tryz.prog 3 22 x 1 (fc f0) X) :
    ∃ v1 w1 ad2 n2 cap2 w2, Two X (.slice (some ⟨gb, 0, none⟩) at_ at_) x (restV gb e n cap) v1 w1 ad2 n2 cap2 w2 (fs.take at_ ++ f0 :: fs.drop e) := by
  obtain ⟨v1, w1, hr1, ho1, hg1⟩ := app_full X (some ⟨gb, 0, none⟩) at_ ((fs.take at_).flatMap fc) (fc f0) x 1 (by rw [fc_len, List.length_take]; congr 1; omega) (head_cells (w := X.drew) (by omega) (hf.keep ((Below.refl _ X).drew))) hx (by omega) (by omega)
  have hb1 := grown_below hg1
  have hsrc := rest_src (w := w1) (cap := cap) hn he hc (hf.keep hb1)
  obtain ⟨i0, hi, hz0, hz1, hz2⟩ := info_parts Tryz.info107
  have hsz := hb1.size
  obtain ⟨v2, w2, hr2, ho2, hg2⟩ : ∃ v2 w2, (∀ ty, (Builtin.append_ #[22, 22] ty #[v1, restV gb e n cap]).run Tryz.prog w1 = .ok v2 w2) ∧ w2.ownsRow X.heap.size 107 3 v2 (at_ + 1 + (n - e)) ((fs.take at_).flatMap fc ++ fc f0 ++ (fs.drop e).flatMap fc) ∧ w1.grownBy w2 v1.ownBlock := by
    have hR : ∃ a m c, restV gb e n cap = .slice (some a) m c ∧ m = n - e ∧ ∀ j u, ((fs.drop e).flatMap fc)[j]? = some u → w1.cell? (a.add j) = some u := by
      unfold restV
      by_cases h : e = cap
      · rw [if_pos h]
        refine ⟨_, _, _, rfl, by omega, fun j u hu => ?_⟩
        have hnil : fs.drop e = [] := List.drop_of_length_le (by omega)
        rw [hnil] at hu; simp at hu
      · rw [if_neg h]
        refine ⟨_, _, _, rfl, rfl, fun j u hu => ?_⟩
        have hne : fs ≠ [] := by rintro rfl; simp at hu
        obtain ⟨g', off', e', hg, hcell⟩ := (hf.keep hb1).cells hne
        injection e' with e'
        injection e' with e1 e2
        subst e1 e2
        rw [Addr.add_lit]
        rw [flat_drop, List.getElem?_drop] at hu
        have := hcell _ u hu
        rwa [Nat.zero_add] at this
    obtain ⟨a, m, c, hRv, hm, hcells⟩ := hR
    subst hm
    have := fun ty => run_append_own_at (P := Tryz.prog) w1 X.heap.size 22 ty 107 i0 _ 3 40 Tryz.underlying22 hi hz0 hz1 hz2 rfl (by decide) v1 (at_ + 1) _ ho1 a (n - e) c _ (by rw [fc_len, List.length_drop, hn]) hcells (fc_one _) (by simp [maxLen]; omega) (by omega) hsz
    rw [hRv]
    obtain ⟨v2, w2, h1, h2, h3, _⟩ := this 0
    refine ⟨v2, w2, fun ty => ?_, h2, h3⟩
    exact h1
  have hrow : FRow w2 X.heap.size v2 (fs.take at_ ++ f0 :: fs.drop e) := FRow.of_own (n := at_ + 1 + (n - e)) (by simpa [List.flatMap_append] using ho2)
  obtain ⟨ad2, cap2, rfl, hinp⟩ := Inp.of_row hrow
  refine ⟨v1, w1, ad2, _, cap2, w2, hr1, hr2, hb1, ?_, hinp, fun b hb => ⟨.inl (hrow.lt b hb).1, hrow.free b hb⟩⟩
  exact hb1.grown hg2 hsz (fun k hk => (World.ownsRow.lt ho1 k hk).1)

/-- none more, from a place on -/
theorem two_del (X : World) (gb n cap at_ e : Nat) (fs : List F) (hn : n = fs.length) (hat : at_ ≤ n) (he : e ≤ n) (hc : n ≤ cap) (hb : n ≤ 1000) (hlt : gb < X.heap.size) (hfr : Free X gb) (hf : Fls X X.heap.size (some ⟨gb, 0, none⟩) fs) :
    ∃ v1 w1 ad2 n2 cap2 w2, Two X (.slice (some ⟨gb, 0, none⟩) at_ at_) (.slice none 0 0) (restV gb e n cap) v1 w1 ad2 n2 cap2 w2 (fs.take at_ ++ fs.drop e) := by
  obtain ⟨i0, hi, hz0, hz1, hz2⟩ := info_parts Tryz.info107
  have hr1 := fun ty => run_append_nothing (P := Tryz.prog) X 22 22 ty 107 i0 Tryz.underlying22 hi (some ⟨gb, 0, none⟩) at_ at_ (Nat.le_refl _) (.slice none 0 0) (by rw [hz1]; exact Src.ofNil X Tryz.underlying22 0)
  have hsrc := rest_src (w := X) (cap := cap) hn he hc hf
  have htl : (fs.take at_).length = at_ := by rw [List.length_take]; omega
  by_cases h0 : n - e = 0
  · have hnil : fs.drop e = [] := List.drop_of_length_le (by omega)
    rw [h0, hnil] at hsrc
    have hr2 := fun ty => run_append_nothing (P := Tryz.prog) X 22 22 ty 107 i0 Tryz.underlying22 hi (some ⟨gb, 0, none⟩) at_ at_ (Nat.le_refl _) _ (by rw [hz1]; exact hsrc)
    refine ⟨_, X, _, at_, at_, X, hr1, hr2, Below.refl _ _, Below.refl _ _, ?_, fun b hb => ⟨.inr hb.symm, by simp [Value.ownBlock] at hb; rw [← hb]; exact hfr⟩⟩
    rw [hnil, List.append_nil]
    refine ⟨htl.symm, Nat.le_refl _, (fun h => by cases h), fun hne => ?_⟩
    have hne' : fs ≠ [] := by rintro rfl; simp at hne
    obtain ⟨g', off', e', hg, hcell⟩ := hf hne'
    refine ⟨g', off', e', hg, fun i f hi => hcell i f ?_⟩
    rw [List.getElem?_take] at hi
    by_cases hia : i < at_
    · rwa [if_pos hia] at hi
    · rw [if_neg hia] at hi; cases hi
  · obtain ⟨v2, w2, hr2, ho2, hg2⟩ := app_full X (some ⟨gb, 0, none⟩) at_ ((fs.take at_).flatMap fc) _ _ (n - e) (by rw [fc_len, htl]) (head_cells (w := X.drew) (by omega) (hf.keep ((Below.refl _ X).drew))) hsrc (by omega) (by omega)
    have hrow : FRow w2 X.heap.size v2 (fs.take at_ ++ fs.drop e) := FRow.of_own (n := at_ + (n - e)) (by simpa [List.flatMap_append] using ho2)
    obtain ⟨ad2, cap2, rfl, hinp⟩ := Inp.of_row hrow
    exact ⟨_, X, ad2, _, cap2, w2, hr1, hr2, Below.refl _ _, grown_below hg2, hinp, fun b hb => ⟨.inl (hrow.lt b hb).1, hrow.free b hb⟩⟩
/-- the first file of all -/
theorem two_nil (X : World) (f0 : F) (x : Value) (hx : Src Tryz.prog 3 22 x 1 (fc f0) X) :
    ∃ v1 w1 ad2 n2 cap2 w2, Two X (.slice none 0 0) x (.slice none 0 0) v1 w1 ad2 n2 cap2 w2 [f0] := by
  obtain ⟨i0, hi, hz0, hz1, hz2⟩ := info_parts Tryz.info107
  obtain ⟨v1, w1, hr1, ho1, hg1⟩ := app_full X none 0 [] (fc f0) x 1 rfl (run_firstCells_none _ _ _ _ _) hx (by omega) (by omega)
  have hrow : FRow w1 X.heap.size v1 [f0] := FRow.of_own (n := 1) (by simpa using ho1)
  obtain ⟨ad2, cap2, rfl, hinp⟩ := Inp.of_row hrow
  have hr2 := fun ty => run_append_nothing (P := Tryz.prog) w1 22 22 ty 107 i0 Tryz.underlying22 hi ad2 1 cap2 hinp.2.1 (.slice none 0 0) (by rw [hz1]; exact Src.ofNil w1 Tryz.underlying22 0)
  exact ⟨_, w1, ad2, _, cap2, w1, hr1, hr2, grown_below hg1, grown_below hg1, hinp, fun b hb => ⟨.inl (hrow.lt b hb).1, hrow.free b hb⟩⟩

/-- behind put -/
def Behind (base : Nat) (w : World) (g : Nat) (down : Bool) (fuse fault : Int) (out : List F) (w' : World) : Prop :=
  ∃ ad2 n2 cap2, Dk w' g 91 (.slice ad2 n2 cap2) down fuse fault ∧ Inp w' w'.heap.size ad2 n2 cap2 out ∧ Below base w w' ∧ ∀ b, (Value.slice ad2 n2 cap2).ownBlock = some b → base ≤ b ∧ Free w' b
theorem behind_of {base : Nat} {w X : World} {g : Nat} {v0 : Value} {down : Bool} {fuse fault : Int} {out : List F} {S x R v1 : Value} {w1 w2 : World} {ad2 : Option Addr} {n2 cap2 : Nat} (hX : w.drew = X) (hD : Dk w g 91 v0 down fuse fault)
    (h : Two X S x R v1 w1 ad2 n2 cap2 w2 out) (hS : S.ownBlock ≠ some g) (hSb : ∀ b, S.ownBlock = some b → base ≤ b) (hbase : base ≤ w.heap.size) (hg : base ≤ g) : Behind base w g down fuse fault out (w2.setCell ⟨g, 0, none⟩ (.slice ad2 n2 cap2)) := by
  obtain ⟨_, _, _, hb2, hi, hfar⟩ := h
  have hlt := hD.lt
  subst hX
  have hb2' : Below w.heap.size w w2 := below_drew hb2
  have hD2 := hD.keep hb2' hlt
  have hsz := hb2'.size
  refine ⟨ad2, n2, cap2, hD2.set0 _, ⟨hi.1, hi.2.1, hi.2.2.1, fun hne => ?_⟩, (hb2'.mono hbase).setCell (by exact hg) _, fun b hb => ?_⟩
  rotate_left
  · refine ⟨?_, (hfar b hb).2.set _ _ _⟩
    rcases (hfar b hb).1 with h | h
    · have : w.heap.size ≤ b := h
      omega
    · exact hSb b h.symm
  obtain ⟨gb, off, rfl, hgb, hc⟩ := hi.2.2.2 hne
  have hne' : gb ≠ g := by
    intro e
    subst e
    rcases (hfar gb rfl).1 with h | h
    · have : w.heap.size ≤ gb := h
      omega
    · exact hS h.symm
  refine ⟨gb, off, rfl, by simpa [World.setCell] using hgb, fun i f hif => ?_⟩
  have hh := hc i f hif
  have hcell : ∀ j, (w2.setCell ⟨g, 0, none⟩ (.slice (some ⟨gb, off, none⟩) n2 cap2)).cell? ⟨gb, j, none⟩ = w2.cell? ⟨gb, j, none⟩ := fun j => World.cell?_of_block (w := w2) (Below.heap_setCell w2 ⟨g, 0, none⟩ _ gb hne')
  exact ⟨(hcell _).trans hh.q0, (hcell _).trans hh.q1, (hcell _).trans hh.q2⟩

end Go.Proofs.YtkhmdofeonlnpaaGreatDoor

/- THE WALKS OVER put. -/
namespace Go.Proofs.YtkhmdofeonlnpaaGreatDoor
open Go.RowKit
set_option maxRecDepth 100000
set_option linter.unusedVariables false
set_option linter.unusedSimpArgs false

set_option maxHeartbeats 800000 in
/-- put at a list with cells -/
theorem put_some (w : World) (g gb n cap at_ en : Nat) (down : Bool) (fuse fault : Int) (x v1 : Value) (X w1 w2 : World) (ad2 : Option Addr) (n2 cap2 base : Nat) (out : List F) (hX : w.drew = X) (h : Dk w g 91 (.slice (some ⟨gb, 0, none⟩) n cap) down fuse fault) (h1 : at_ ≤ n) (h2 : en ≤ n) (h3 : n ≤ cap) (h4 : n ≤ 1000)
    (ht : Two X (.slice (some ⟨gb, 0, none⟩) at_ at_) x (restV gb en n cap) v1 w1 ad2 n2 cap2 w2 out) (hne : gb ≠ g) (hgbb : base ≤ gb) (hbase : base ≤ w.heap.size) (hbg : base ≤ g) :
    Calls Tryz.prog 219 #[.pointer (some ⟨g, 0, none⟩), .int .i64 (at_ : Int), .int .i64 (en : Int), x] w fun e w' => e = .returned (.tuple #[]) ∧ Behind base w g down fuse fault out w' := by
  have Hpost := Lib.hid (show Ending.returned (.tuple #[]) = .returned (.tuple #[]) ∧ Behind base w g down fuse fault out (w2.setCell ⟨g, 0, none⟩ (.slice ad2 n2 cap2)) from ⟨rfl, behind_of hX h ht (by simp [Value.ownBlock, hne]) (fun b hb => by simp [Value.ownBlock] at hb; omega) hbase hbg⟩)
  obtain ⟨hr1, hr2, hb1, hb2, _, _⟩ := ht
  have hDX : Dk X g 91 (.slice (some ⟨gb, 0, none⟩) n cap) down fuse fault := by rw [← hX]; exact h
  have hlt := hDX.lt
  obtain ⟨⟨d0, d1, d2, d3⟩, _⟩ := h.facts
  obtain ⟨⟨x0, _, _, _⟩, _⟩ := hDX.facts
  obtain ⟨⟨y0, _, _, _⟩, _⟩ := (hDX.keep hb1 hlt).facts
  obtain ⟨⟨z0, _, _, _⟩, fz, _⟩ := (hDX.keep hb2 hlt).facts
  have HX := Lib.hid hX
  have H3 := Lib.hid hr1
  have he0 : (0 : Int) ≤ (en : Int) := by omega
  have he1 : (en : Int) ≤ (n : Int) := by omega
  have ha0 : (0 : Int) ≤ (at_ : Int) := by omega
  have ha1 : (at_ : Int) ≤ (n : Int) := by omega
  have ha2 : (at_ : Int) ≤ (cap : Int) := by omega
  have he2 : (en : Int) ≤ (cap : Int) := by omega
  unfold restV at hr2
  by_cases hec : en = cap
  · rw [if_pos hec] at hr2
    have H11 := Lib.hid hr2
    have hn : n = cap := by omega
    subst hec
    subst hn
    clear hr1 hr2 hb1 hb2 hX h hDX hlt
    go_enter Tryz.func219, Tryz.ntmps219
    go_wp2
    refine wp_region_any (by kernel_rfl) ?_
    change wpAny _ _ _ _ _ _ _ (w.drew)
    rw [HX.out]
    refine wpAny_take (i := 0) (v := ?va1) rfl (by kernel_rfl) (by kernel_rfl) (by kernel_rfl) (fun _ _ _ h => h) (Or.inl ⟨by kernel_rfl, ?ha1⟩) ?ra1
    case ha1 => (intro w; go_simp; first | done | (with_reducible rfl))
    refine wpAny_take (i := 1) (v := ?va2) rfl (by kernel_rfl) (by kernel_rfl) (by kernel_rfl) (fun _ _ _ h => h) (Or.inl ⟨by kernel_rfl, ?ha2⟩) ?ra2
    case ha2 => (intro w; go_simp; first | done | (with_reducible rfl))
    refine wpAny_take (i := 2) (v := ?va3) rfl (by kernel_rfl) (by kernel_rfl) (by kernel_rfl) (fun _ _ _ h => h) (Or.inl ⟨by kernel_rfl, ?ha3⟩) ?ra3
    case ha3 => (intro w; go_simp; first | done | (with_reducible rfl))
    refine wpAny_take (i := 4) (v := ?va4) rfl (by kernel_rfl) (by kernel_rfl) (by kernel_rfl) (fun _ _ _ h => h) (Or.inl ⟨by kernel_rfl, ?ha4⟩) ?ra4
    case ha4 => (intro w; go_simp; first | done | (with_reducible rfl))
    refine wpAny_take (i := 5) (v := ?va5) rfl (by kernel_rfl) (by kernel_rfl) (by kernel_rfl) (fun _ _ _ h => h) (Or.inl ⟨by kernel_rfl, ?ha5⟩) ?ra5
    case ha5 => (intro w; go_simp; first | done | (with_reducible rfl))
    refine wpAny_take (i := 6) (v := ?va6) rfl (by kernel_rfl) (by kernel_rfl) (by kernel_rfl) (fun _ _ _ h => h) (Or.inl ⟨by kernel_rfl, ?ha6⟩) ?ra6
    case ha6 => (intro w; go_simp; first | done | (with_reducible rfl))
    refine wpAny_take (i := 7) (v := ?va7) rfl (by kernel_rfl) (by kernel_rfl) (by kernel_rfl) (fun _ _ _ h => h) (Or.inl ⟨by kernel_rfl, ?ha7⟩) ?ra7
    case ha7 => (intro w; go_simp; first | done | (with_reducible rfl))
    refine wpAny_take (i := 9) (v := ?va8) rfl (by kernel_rfl) (by kernel_rfl) (by kernel_rfl) (fun _ _ _ h => h) (Or.inl ⟨by kernel_rfl, ?ha8⟩) ?ra8
    case ha8 => (intro w; go_simp; first | done | (with_reducible rfl))
    refine wpAny_ready (rs := [3, 8]) (by kernel_rfl) (by simp) ?_
    refine AllReady.cons rfl (fun K hK => ?_) ?_
    · skip
      rw [if_pos (by kernel_rfl)]
      refine op_app (.tmp 18) (.tmp 19) (.slice (some ⟨gb, 0, none⟩) at_ at_) x (by kernel_rfl) (by kernel_rfl) rfl (H3.out _) ?_
      refine hK _ _ ?_
      clear hK K
      refine wpAny_ready (rs := [8]) (by kernel_rfl) (by simp) ?_
      refine AllReady.cons rfl (fun K hK => ?_) AllReady.nil
      go_simp
      refine hK _ _ ?_
      clear hK K
      refine wpAny_take (i := 10) (v := ?va9) rfl (by kernel_rfl) (by kernel_rfl) (by kernel_rfl) (fun _ _ _ h => h) (Or.inl ⟨by kernel_rfl, ?ha9⟩) ?ra9
      case ha9 => (intro w; go_simp; first | done | (with_reducible rfl))
      refine wpAny_ready (rs := [11]) (by kernel_rfl) (by simp) ?_
      refine AllReady.cons rfl (fun K hK => ?_) AllReady.nil
      rw [if_pos (by kernel_rfl)]
      refine op_app (.tmp 20) (.tmp 27) v1 (.slice (some ⟨gb, 0, none⟩) 0 0) (by kernel_rfl) (by kernel_rfl) rfl (H11.out _) ?_
      refine hK _ _ ?_
      clear hK K
      refine wpAny_take (i := 12) (v := ?va10) rfl (by kernel_rfl) (by kernel_rfl) (by kernel_rfl) (fun _ _ _ h => h) (Or.inl ⟨by kernel_rfl, ?ha10⟩) ?ra10
      case ha10 => (intro w; go_simp; first | done | (with_reducible rfl))
      refine wpAny_take (i := 13) (v := ?va11) rfl (by kernel_rfl) (by kernel_rfl) (by kernel_rfl) (fun _ _ _ h => h) (Or.inl ⟨by kernel_rfl, ?ha11⟩) ?ra11
      case ha11 => (intro w; go_simp; first | done | (with_reducible rfl))
      refine wpAny_take (i := 14) (v := ?va12) rfl (by kernel_rfl) (by kernel_rfl) (by kernel_rfl) (fun _ _ _ h => h) (Or.inl ⟨by kernel_rfl, ?ha12⟩) ?ra12
      case ha12 => (intro w; go_simp; first | done | (with_reducible rfl))
      refine wpAny_ready (rs := [15]) (by kernel_rfl) (by simp) ?_
      refine AllReady.cons rfl (fun K hK => ?_) AllReady.nil
      go_simp
      refine hK _ _ ?_
      clear hK K
      refine wpAny_done (by kernel_rfl) ?_ _
      try go_simp
      go_end0
      exact ⟨rfl, Hpost.out.2⟩
    refine AllReady.cons rfl (fun K hK => ?_) AllReady.nil
    go_simp
    refine hK _ _ ?_
    clear hK K
    refine wpAny_take (i := 10) (v := ?va13) rfl (by kernel_rfl) (by kernel_rfl) (by kernel_rfl) (fun _ _ _ h => h) (Or.inl ⟨by kernel_rfl, ?ha13⟩) ?ra13
    case ha13 => (intro w; go_simp; first | done | (with_reducible rfl))
    refine wpAny_ready (rs := [3]) (by kernel_rfl) (by simp) ?_
    refine AllReady.cons rfl (fun K hK => ?_) AllReady.nil
    rw [if_pos (by kernel_rfl)]
    refine op_app (.tmp 18) (.tmp 19) (.slice (some ⟨gb, 0, none⟩) at_ at_) x (by kernel_rfl) (by kernel_rfl) rfl (H3.out _) ?_
    refine hK _ _ ?_
    clear hK K
    refine wpAny_ready (rs := [11]) (by kernel_rfl) (by simp) ?_
    refine AllReady.cons rfl (fun K hK => ?_) AllReady.nil
    rw [if_pos (by kernel_rfl)]
    refine op_app (.tmp 20) (.tmp 27) v1 (.slice (some ⟨gb, 0, none⟩) 0 0) (by kernel_rfl) (by kernel_rfl) rfl (H11.out _) ?_
    refine hK _ _ ?_
    clear hK K
    refine wpAny_take (i := 12) (v := ?va14) rfl (by kernel_rfl) (by kernel_rfl) (by kernel_rfl) (fun _ _ _ h => h) (Or.inl ⟨by kernel_rfl, ?ha14⟩) ?ra14
    case ha14 => (intro w; go_simp; first | done | (with_reducible rfl))
    refine wpAny_take (i := 13) (v := ?va15) rfl (by kernel_rfl) (by kernel_rfl) (by kernel_rfl) (fun _ _ _ h => h) (Or.inl ⟨by kernel_rfl, ?ha15⟩) ?ra15
    case ha15 => (intro w; go_simp; first | done | (with_reducible rfl))
    refine wpAny_take (i := 14) (v := ?va16) rfl (by kernel_rfl) (by kernel_rfl) (by kernel_rfl) (fun _ _ _ h => h) (Or.inl ⟨by kernel_rfl, ?ha16⟩) ?ra16
    case ha16 => (intro w; go_simp; first | done | (with_reducible rfl))
    refine wpAny_ready (rs := [15]) (by kernel_rfl) (by simp) ?_
    refine AllReady.cons rfl (fun K hK => ?_) AllReady.nil
    go_simp
    refine hK _ _ ?_
    clear hK K
    refine wpAny_done (by kernel_rfl) ?_ _
    try go_simp
    go_end0
    exact ⟨rfl, Hpost.out.2⟩
  · rw [if_neg hec] at hr2
    have hec' : (cap == en) = false := by simp; omega
    have hec2 : ¬ cap = en := fun e => hec e.symm
    have hec3 : 0 < cap - en := by omega
    have H11 := Lib.hid hr2
    clear hr1 hr2 hb1 hb2 hX h hDX hlt
    go_enter Tryz.func219, Tryz.ntmps219
    go_wp2
    refine wp_region_any (by kernel_rfl) ?_
    change wpAny _ _ _ _ _ _ _ (w.drew)
    rw [HX.out]
    refine wpAny_take (i := 0) (v := ?vb1) rfl (by kernel_rfl) (by kernel_rfl) (by kernel_rfl) (fun _ _ _ h => h) (Or.inl ⟨by kernel_rfl, ?hb1⟩) ?rb1
    case hb1 => (intro w; go_simp; first | done | (with_reducible rfl))
    refine wpAny_take (i := 1) (v := ?vb2) rfl (by kernel_rfl) (by kernel_rfl) (by kernel_rfl) (fun _ _ _ h => h) (Or.inl ⟨by kernel_rfl, ?hb2⟩) ?rb2
    case hb2 => (intro w; go_simp; first | done | (with_reducible rfl))
    refine wpAny_take (i := 2) (v := ?vb3) rfl (by kernel_rfl) (by kernel_rfl) (by kernel_rfl) (fun _ _ _ h => h) (Or.inl ⟨by kernel_rfl, ?hb3⟩) ?rb3
    case hb3 => (intro w; go_simp; first | done | (with_reducible rfl))
    refine wpAny_take (i := 4) (v := ?vb4) rfl (by kernel_rfl) (by kernel_rfl) (by kernel_rfl) (fun _ _ _ h => h) (Or.inl ⟨by kernel_rfl, ?hb4⟩) ?rb4
    case hb4 => (intro w; go_simp; first | done | (with_reducible rfl))
    refine wpAny_take (i := 5) (v := ?vb5) rfl (by kernel_rfl) (by kernel_rfl) (by kernel_rfl) (fun _ _ _ h => h) (Or.inl ⟨by kernel_rfl, ?hb5⟩) ?rb5
    case hb5 => (intro w; go_simp; first | done | (with_reducible rfl))
    refine wpAny_take (i := 6) (v := ?vb6) rfl (by kernel_rfl) (by kernel_rfl) (by kernel_rfl) (fun _ _ _ h => h) (Or.inl ⟨by kernel_rfl, ?hb6⟩) ?rb6
    case hb6 => (intro w; go_simp; first | done | (with_reducible rfl))
    refine wpAny_take (i := 7) (v := ?vb7) rfl (by kernel_rfl) (by kernel_rfl) (by kernel_rfl) (fun _ _ _ h => h) (Or.inl ⟨by kernel_rfl, ?hb7⟩) ?rb7
    case hb7 => (intro w; go_simp; first | done | (with_reducible rfl))
    refine wpAny_take (i := 9) (v := ?vb8) rfl (by kernel_rfl) (by kernel_rfl) (by kernel_rfl) (fun _ _ _ h => h) (Or.inl ⟨by kernel_rfl, ?hb8⟩) ?rb8
    case hb8 => (intro w; go_simp; first | done | (with_reducible rfl))
    refine wpAny_ready (rs := [3, 8]) (by kernel_rfl) (by simp) ?_
    refine AllReady.cons rfl (fun K hK => ?_) ?_
    · skip
      rw [if_pos (by kernel_rfl)]
      refine op_app (.tmp 18) (.tmp 19) (.slice (some ⟨gb, 0, none⟩) at_ at_) x (by kernel_rfl) (by kernel_rfl) rfl (H3.out _) ?_
      refine hK _ _ ?_
      clear hK K
      refine wpAny_ready (rs := [8]) (by kernel_rfl) (by simp) ?_
      refine AllReady.cons rfl (fun K hK => ?_) AllReady.nil
      go_simp
      refine hK _ _ ?_
      clear hK K
      refine wpAny_take (i := 10) (v := ?vb9) rfl (by kernel_rfl) (by kernel_rfl) (by kernel_rfl) (fun _ _ _ h => h) (Or.inl ⟨by kernel_rfl, ?hb9⟩) ?rb9
      case hb9 => (intro w; go_simp; first | done | (with_reducible rfl))
      refine wpAny_ready (rs := [11]) (by kernel_rfl) (by simp) ?_
      refine AllReady.cons rfl (fun K hK => ?_) AllReady.nil
      rw [if_pos (by kernel_rfl)]
      refine op_app (.tmp 20) (.tmp 27) v1 (.slice (some ⟨gb, en * 3, none⟩) (n - en) (cap - en)) (by kernel_rfl) (by kernel_rfl) rfl (H11.out _) ?_
      refine hK _ _ ?_
      clear hK K
      refine wpAny_take (i := 12) (v := ?vb10) rfl (by kernel_rfl) (by kernel_rfl) (by kernel_rfl) (fun _ _ _ h => h) (Or.inl ⟨by kernel_rfl, ?hb10⟩) ?rb10
      case hb10 => (intro w; go_simp; first | done | (with_reducible rfl))
      refine wpAny_take (i := 13) (v := ?vb11) rfl (by kernel_rfl) (by kernel_rfl) (by kernel_rfl) (fun _ _ _ h => h) (Or.inl ⟨by kernel_rfl, ?hb11⟩) ?rb11
      case hb11 => (intro w; go_simp; first | done | (with_reducible rfl))
      refine wpAny_take (i := 14) (v := ?vb12) rfl (by kernel_rfl) (by kernel_rfl) (by kernel_rfl) (fun _ _ _ h => h) (Or.inl ⟨by kernel_rfl, ?hb12⟩) ?rb12
      case hb12 => (intro w; go_simp; first | done | (with_reducible rfl))
      refine wpAny_ready (rs := [15]) (by kernel_rfl) (by simp) ?_
      refine AllReady.cons rfl (fun K hK => ?_) AllReady.nil
      go_simp
      refine hK _ _ ?_
      clear hK K
      refine wpAny_done (by kernel_rfl) ?_ _
      try go_simp
      go_end0
      exact ⟨rfl, Hpost.out.2⟩
    refine AllReady.cons rfl (fun K hK => ?_) AllReady.nil
    go_simp
    refine hK _ _ ?_
    clear hK K
    refine wpAny_take (i := 10) (v := ?vb13) rfl (by kernel_rfl) (by kernel_rfl) (by kernel_rfl) (fun _ _ _ h => h) (Or.inl ⟨by kernel_rfl, ?hb13⟩) ?rb13
    case hb13 => (intro w; go_simp; first | done | (with_reducible rfl))
    refine wpAny_ready (rs := [3]) (by kernel_rfl) (by simp) ?_
    refine AllReady.cons rfl (fun K hK => ?_) AllReady.nil
    rw [if_pos (by kernel_rfl)]
    refine op_app (.tmp 18) (.tmp 19) (.slice (some ⟨gb, 0, none⟩) at_ at_) x (by kernel_rfl) (by kernel_rfl) rfl (H3.out _) ?_
    refine hK _ _ ?_
    clear hK K
    refine wpAny_ready (rs := [11]) (by kernel_rfl) (by simp) ?_
    refine AllReady.cons rfl (fun K hK => ?_) AllReady.nil
    rw [if_pos (by kernel_rfl)]
    refine op_app (.tmp 20) (.tmp 27) v1 (.slice (some ⟨gb, en * 3, none⟩) (n - en) (cap - en)) (by kernel_rfl) (by kernel_rfl) rfl (H11.out _) ?_
    refine hK _ _ ?_
    clear hK K
    refine wpAny_take (i := 12) (v := ?vb14) rfl (by kernel_rfl) (by kernel_rfl) (by kernel_rfl) (fun _ _ _ h => h) (Or.inl ⟨by kernel_rfl, ?hb14⟩) ?rb14
    case hb14 => (intro w; go_simp; first | done | (with_reducible rfl))
    refine wpAny_take (i := 13) (v := ?vb15) rfl (by kernel_rfl) (by kernel_rfl) (by kernel_rfl) (fun _ _ _ h => h) (Or.inl ⟨by kernel_rfl, ?hb15⟩) ?rb15
    case hb15 => (intro w; go_simp; first | done | (with_reducible rfl))
    refine wpAny_take (i := 14) (v := ?vb16) rfl (by kernel_rfl) (by kernel_rfl) (by kernel_rfl) (fun _ _ _ h => h) (Or.inl ⟨by kernel_rfl, ?hb16⟩) ?rb16
    case hb16 => (intro w; go_simp; first | done | (with_reducible rfl))
    refine wpAny_ready (rs := [15]) (by kernel_rfl) (by simp) ?_
    refine AllReady.cons rfl (fun K hK => ?_) AllReady.nil
    go_simp
    refine hK _ _ ?_
    clear hK K
    refine wpAny_done (by kernel_rfl) ?_ _
    try go_simp
    go_end0
    exact ⟨rfl, Hpost.out.2⟩

set_option maxHeartbeats 800000 in
/-- put at no list -/
theorem put_none (w : World) (g : Nat) (down : Bool) (fuse fault : Int) (x v1 : Value) (X w1 w2 : World) (ad2 : Option Addr) (n2 cap2 base : Nat) (out : List F) (hX : w.drew = X) (h : Dk w g 91 (.slice none 0 0) down fuse fault)
    (ht : Two X (.slice none 0 0) x (.slice none 0 0) v1 w1 ad2 n2 cap2 w2 out) (hbase : base ≤ w.heap.size) (hbg : base ≤ g) :
    Calls Tryz.prog 219 #[.pointer (some ⟨g, 0, none⟩), .int .i64 0, .int .i64 0, x] w fun e w' => e = .returned (.tuple #[]) ∧ Behind base w g down fuse fault out w' := by
  have Hpost := Lib.hid (show Ending.returned (.tuple #[]) = .returned (.tuple #[]) ∧ Behind base w g down fuse fault out (w2.setCell ⟨g, 0, none⟩ (.slice ad2 n2 cap2)) from ⟨rfl, behind_of hX h ht (by simp [Value.ownBlock]) (fun b hb => by simp [Value.ownBlock] at hb) hbase hbg⟩)
  obtain ⟨hr1, hr2, hb1, hb2, _, _⟩ := ht
  have hDX : Dk X g 91 (.slice none 0 0) down fuse fault := by rw [← hX]; exact h
  have hlt := hDX.lt
  obtain ⟨⟨d0, d1, d2, d3⟩, _⟩ := h.facts
  obtain ⟨⟨x0, _, _, _⟩, _⟩ := hDX.facts
  obtain ⟨⟨y0, _, _, _⟩, _⟩ := (hDX.keep hb1 hlt).facts
  obtain ⟨⟨z0, _, _, _⟩, fz, _⟩ := (hDX.keep hb2 hlt).facts
  have HX := Lib.hid hX
  have H3 := Lib.hid hr1
  have H11 := Lib.hid hr2
  clear hr1 hr2 hb1 hb2 hX h hDX hlt
  go_enter Tryz.func219, Tryz.ntmps219
  go_wp2
  refine wp_region_any (by kernel_rfl) ?_
  change wpAny _ _ _ _ _ _ _ (w.drew)
  rw [HX.out]
  refine wpAny_take (i := 0) (v := ?vc1) rfl (by kernel_rfl) (by kernel_rfl) (by kernel_rfl) (fun _ _ _ h => h) (Or.inl ⟨by kernel_rfl, ?hc1⟩) ?rc1
  case hc1 => (intro w; go_simp; first | done | (with_reducible rfl))
  refine wpAny_take (i := 1) (v := ?vc2) rfl (by kernel_rfl) (by kernel_rfl) (by kernel_rfl) (fun _ _ _ h => h) (Or.inl ⟨by kernel_rfl, ?hc2⟩) ?rc2
  case hc2 => (intro w; go_simp; first | done | (with_reducible rfl))
  refine wpAny_take (i := 2) (v := ?vc3) rfl (by kernel_rfl) (by kernel_rfl) (by kernel_rfl) (fun _ _ _ h => h) (Or.inl ⟨by kernel_rfl, ?hc3⟩) ?rc3
  case hc3 => (intro w; go_simp; first | done | (with_reducible rfl))
  refine wpAny_take (i := 4) (v := ?vc4) rfl (by kernel_rfl) (by kernel_rfl) (by kernel_rfl) (fun _ _ _ h => h) (Or.inl ⟨by kernel_rfl, ?hc4⟩) ?rc4
  case hc4 => (intro w; go_simp; first | done | (with_reducible rfl))
  refine wpAny_take (i := 5) (v := ?vc5) rfl (by kernel_rfl) (by kernel_rfl) (by kernel_rfl) (fun _ _ _ h => h) (Or.inl ⟨by kernel_rfl, ?hc5⟩) ?rc5
  case hc5 => (intro w; go_simp; first | done | (with_reducible rfl))
  refine wpAny_take (i := 6) (v := ?vc6) rfl (by kernel_rfl) (by kernel_rfl) (by kernel_rfl) (fun _ _ _ h => h) (Or.inl ⟨by kernel_rfl, ?hc6⟩) ?rc6
  case hc6 => (intro w; go_simp; first | done | (with_reducible rfl))
  refine wpAny_take (i := 7) (v := ?vc7) rfl (by kernel_rfl) (by kernel_rfl) (by kernel_rfl) (fun _ _ _ h => h) (Or.inl ⟨by kernel_rfl, ?hc7⟩) ?rc7
  case hc7 => (intro w; go_simp; first | done | (with_reducible rfl))
  refine wpAny_take (i := 9) (v := ?vc8) rfl (by kernel_rfl) (by kernel_rfl) (by kernel_rfl) (fun _ _ _ h => h) (Or.inl ⟨by kernel_rfl, ?hc8⟩) ?rc8
  case hc8 => (intro w; go_simp; first | done | (with_reducible rfl))
  refine wpAny_ready (rs := [3, 8]) (by kernel_rfl) (by simp) ?_
  refine AllReady.cons rfl (fun K hK => ?_) ?_
  · skip
    rw [if_pos (by kernel_rfl)]
    refine op_app (.tmp 18) (.tmp 19) (.slice none 0 0) x (by kernel_rfl) (by kernel_rfl) rfl (H3.out _) ?_
    refine hK _ _ ?_
    clear hK K
    refine wpAny_ready (rs := [8]) (by kernel_rfl) (by simp) ?_
    refine AllReady.cons rfl (fun K hK => ?_) AllReady.nil
    go_simp
    refine hK _ _ ?_
    clear hK K
    refine wpAny_take (i := 10) (v := ?vc9) rfl (by kernel_rfl) (by kernel_rfl) (by kernel_rfl) (fun _ _ _ h => h) (Or.inl ⟨by kernel_rfl, ?hc9⟩) ?rc9
    case hc9 => (intro w; go_simp; first | done | (with_reducible rfl))
    refine wpAny_ready (rs := [11]) (by kernel_rfl) (by simp) ?_
    refine AllReady.cons rfl (fun K hK => ?_) AllReady.nil
    rw [if_pos (by kernel_rfl)]
    refine op_app (.tmp 20) (.tmp 27) v1 (.slice none 0 0) (by kernel_rfl) (by kernel_rfl) rfl (H11.out _) ?_
    refine hK _ _ ?_
    clear hK K
    refine wpAny_take (i := 12) (v := ?vc10) rfl (by kernel_rfl) (by kernel_rfl) (by kernel_rfl) (fun _ _ _ h => h) (Or.inl ⟨by kernel_rfl, ?hc10⟩) ?rc10
    case hc10 => (intro w; go_simp; first | done | (with_reducible rfl))
    refine wpAny_take (i := 13) (v := ?vc11) rfl (by kernel_rfl) (by kernel_rfl) (by kernel_rfl) (fun _ _ _ h => h) (Or.inl ⟨by kernel_rfl, ?hc11⟩) ?rc11
    case hc11 => (intro w; go_simp; first | done | (with_reducible rfl))
    refine wpAny_take (i := 14) (v := ?vc12) rfl (by kernel_rfl) (by kernel_rfl) (by kernel_rfl) (fun _ _ _ h => h) (Or.inl ⟨by kernel_rfl, ?hc12⟩) ?rc12
    case hc12 => (intro w; go_simp; first | done | (with_reducible rfl))
    refine wpAny_ready (rs := [15]) (by kernel_rfl) (by simp) ?_
    refine AllReady.cons rfl (fun K hK => ?_) AllReady.nil
    go_simp
    refine hK _ _ ?_
    clear hK K
    refine wpAny_done (by kernel_rfl) ?_ _
    try go_simp
    go_end0
    exact ⟨rfl, Hpost.out.2⟩
  refine AllReady.cons rfl (fun K hK => ?_) AllReady.nil
  go_simp
  refine hK _ _ ?_
  clear hK K
  refine wpAny_take (i := 10) (v := ?vc13) rfl (by kernel_rfl) (by kernel_rfl) (by kernel_rfl) (fun _ _ _ h => h) (Or.inl ⟨by kernel_rfl, ?hc13⟩) ?rc13
  case hc13 => (intro w; go_simp; first | done | (with_reducible rfl))
  refine wpAny_ready (rs := [3]) (by kernel_rfl) (by simp) ?_
  refine AllReady.cons rfl (fun K hK => ?_) AllReady.nil
  rw [if_pos (by kernel_rfl)]
  refine op_app (.tmp 18) (.tmp 19) (.slice none 0 0) x (by kernel_rfl) (by kernel_rfl) rfl (H3.out _) ?_
  refine hK _ _ ?_
  clear hK K
  refine wpAny_ready (rs := [11]) (by kernel_rfl) (by simp) ?_
  refine AllReady.cons rfl (fun K hK => ?_) AllReady.nil
  rw [if_pos (by kernel_rfl)]
  refine op_app (.tmp 20) (.tmp 27) v1 (.slice none 0 0) (by kernel_rfl) (by kernel_rfl) rfl (H11.out _) ?_
  refine hK _ _ ?_
  clear hK K
  refine wpAny_take (i := 12) (v := ?vc14) rfl (by kernel_rfl) (by kernel_rfl) (by kernel_rfl) (fun _ _ _ h => h) (Or.inl ⟨by kernel_rfl, ?hc14⟩) ?rc14
  case hc14 => (intro w; go_simp; first | done | (with_reducible rfl))
  refine wpAny_take (i := 13) (v := ?vc15) rfl (by kernel_rfl) (by kernel_rfl) (by kernel_rfl) (fun _ _ _ h => h) (Or.inl ⟨by kernel_rfl, ?hc15⟩) ?rc15
  case hc15 => (intro w; go_simp; first | done | (with_reducible rfl))
  refine wpAny_take (i := 14) (v := ?vc16) rfl (by kernel_rfl) (by kernel_rfl) (by kernel_rfl) (fun _ _ _ h => h) (Or.inl ⟨by kernel_rfl, ?hc16⟩) ?rc16
  case hc16 => (intro w; go_simp; first | done | (with_reducible rfl))
  refine wpAny_ready (rs := [15]) (by kernel_rfl) (by simp) ?_
  refine AllReady.cons rfl (fun K hK => ?_) AllReady.nil
  go_simp
  refine hK _ _ ?_
  clear hK K
  refine wpAny_done (by kernel_rfl) ?_ _
  try go_simp
  go_end0
  exact ⟨rfl, Hpost.out.2⟩

end Go.Proofs.YtkhmdofeonlnpaaGreatDoor

/- THE WALKS OVER create, remove. -/
namespace Go.Proofs.YtkhmdofeonlnpaaGreatDoor
open Go.RowKit
set_option maxRecDepth 100000
set_option linter.unusedVariables false
set_option linter.unusedSimpArgs false

theorem src_new (w : World) (f : F) : Src Tryz.prog 3 22 (.slice (some ⟨w.heap.size, 0, none⟩) 1 1) 1 (fc f) (w.alloc (.cells #[.string f.name, .string f.data, .int .i64 f.syn] 107)) := by
  refine Src.ofSlice _ Tryz.underlying22 _ 1 1 _ rfl (fun j u hu => ?_) (fun u hu => fc_one [f] u (by simpa using hu))
  rw [Addr.add_lit, Nat.zero_add, cell_of_row _ w.heap.size j _ 107 (0, 0) (blk_new w _), ← Array.getElem?_toList]
  exact hu
theorem Behind.from {base B : Nat} {w W : World} {g : Nat} {down : Bool} {fuse fault : Int} {out : List F} {w' : World} (h : Behind base W g down fuse fault out w') (hb : Below base w W) : Behind base w g down fuse fault out w' := by
  obtain ⟨ad2, n2, cap2, h1, h2, h3, h4⟩ := h
  exact ⟨ad2, n2, cap2, h1, h2, hb.trans h3, h4⟩
theorem found_here {fs : List F} {ad : Option Addr} {cap n : Nat} (hn : n = fs.length) (hc : ad = none → cap = 0) (hnc : n ≤ cap) (h : ad = none) : fs = [] := by
  have := hc h
  exact List.eq_nil_of_length_eq_zero (by omega)

section
variable (w : World) (g base gb n cap : Nat) (down : Bool) (fuse fault : Int) (fs : List F) (nm dt : ByteArray) (z : Int)
set_option maxHeartbeats 2000000 in
theorem create_some (k : Int) (h : On w g (some ⟨gb, 0, none⟩) n cap down fuse fault fs) (hgb : gb < w.heap.size) (hnc : n ≤ cap) (hne : gb ≠ g) (hgbb : base ≤ gb) (hbase : base ≤ w.heap.size) (hbg : base ≤ g) (hf : found fs nm = none) :
    Calls Tryz.prog 185 #[.pointer (some ⟨g, 0, none⟩), .agg (scells k nm dt z)] w fun e w' => e = .returned (.tuple #[]) ∧ Behind base w g down fuse fault (fs.take (pos fs nm) ++ ⟨nm, ⟨#[]⟩, 0⟩ :: fs.drop (pos fs nm)) w' := by
  have h64 : n ≤ 64 := by rw [h.n]; exact h.r.1
  have hp : pos fs nm ≤ n := by rw [h.n]; exact pos_le fs nm
  have HF := Lib.hid (find_any (w.alloc (.cells (scells k nm dt z) 182)) g 91 (some ⟨gb, 0, none⟩) cap n down fuse fault nm fs false (h.alloc _).d h.n (h.alloc _).f h.r (by rw [hf]; rfl))
  obtain ⟨P, hP⟩ : ∃ P, pos fs nm = P := ⟨_, rfl⟩
  rw [hP] at HF hp ⊢
  have H := Lib.hid h
  have HXX := Lib.hid (blk_new w (.cells (scells k nm dt z) 182))
  clear h hf hP
  have hput : ∀ W, Below w.heap.size w W → Calls Tryz.prog 219 #[.pointer (some ⟨g, 0, none⟩), .int .i64 (P : Int), .int .i64 (P : Int), .slice (some ⟨W.heap.size, 0, none⟩) 1 1] (W.alloc (.cells #[.string nm, .string ⟨#[]⟩, .int .i64 0] 107)) fun e w' => e = .returned (.tuple #[]) ∧ Behind base w g down fuse fault (fs.take P ++ ⟨nm, ⟨#[]⟩, 0⟩ :: fs.drop P) w' := by
    intro W hW
    have hW2 := hW.alloc (o := .cells #[.string nm, .string ⟨#[]⟩, .int .i64 0] 107) hW.size
    have hO := H.out.keep hW2
    obtain ⟨v1, w1, ad2, n2, cap2, w2, ht⟩ := two_ins (W.alloc (.cells #[.string nm, .string ⟨#[]⟩, .int .i64 0] 107)).drew gb n cap P P fs ⟨nm, ⟨#[]⟩, 0⟩ _ hO.n hp hp hnc (by omega) (hO.f.keep (Below.refl _ _).drew) (by
      have := src_new W ⟨nm, ⟨#[]⟩, 0⟩
      exact ⟨this.kind, this.len, this.cellsD, (by have := src_new W.drew ⟨nm, ⟨#[]⟩, 0⟩; exact (src_new W.drew.drew ⟨nm, ⟨#[]⟩, 0⟩).cells), this.newsLen, this.one⟩)
    exact (put_some _ g gb n cap P P down fuse fault _ v1 _ w1 w2 ad2 n2 cap2 base _ rfl hO.d hp hp hnc (by omega) ht hne hgbb (Nat.le_trans hbase hW2.size) hbg).mono fun e w' ⟨h1, h2⟩ => ⟨h1, h2.from (B := 0) (hW2.mono hbase)⟩
  have Hput := Lib.hid hput
  clear hput
  go_enter Tryz.func185, Tryz.ntmps185
  go_wp2_with fail
  refine (HF.out).mono ?_
  rintro e w1 ⟨rfl, hb⟩
  obtain ⟨x0, x1, x2, x3⟩ := box4 ((hb.block w.heap.size (by simp)).trans HXX.out)
  have HW := Lib.hid (((Below.refl w.heap.size w).alloc (Nat.le_refl _) (.cells (scells k nm dt z) 182)).trans (hb.mono (by simp)))
  clear hb
  go_wp2_with fail
  refine (Hput.out _ HW.out).mono ?_
  rintro e w2 ⟨rfl, hB⟩
  have HB := Lib.hid hB; clear hB
  go_wp2
  go_end0
  exact ⟨rfl, HB.out⟩
set_option maxHeartbeats 2000000 in
theorem create_none (k : Int) (h : On w g none 0 0 down fuse fault fs) (hbase : base ≤ w.heap.size) (hbg : base ≤ g) (hf : found fs nm = none) :
    Calls Tryz.prog 185 #[.pointer (some ⟨g, 0, none⟩), .agg (scells k nm dt z)] w fun e w' => e = .returned (.tuple #[]) ∧ Behind base w g down fuse fault (fs.take (pos fs nm) ++ ⟨nm, ⟨#[]⟩, 0⟩ :: fs.drop (pos fs nm)) w' := by
  have hnil : fs = [] := List.eq_nil_of_length_eq_zero h.n.symm
  subst hnil
  have HF := Lib.hid (find_any (w.alloc (.cells (scells k nm dt z) 182)) g 91 none 0 0 down fuse fault nm [] false (h.alloc _).d h.n (h.alloc _).f h.r (by rw [hf]; rfl))
  have hP : pos [] nm = 0 := rfl
  rw [hP] at HF ⊢
  have H := Lib.hid h
  have HXX := Lib.hid (blk_new w (.cells (scells k nm dt z) 182))
  clear h hf hP
  have hput : ∀ W, Below w.heap.size w W → Calls Tryz.prog 219 #[.pointer (some ⟨g, 0, none⟩), .int .i64 0, .int .i64 0, .slice (some ⟨W.heap.size, 0, none⟩) 1 1] (W.alloc (.cells #[.string nm, .string ⟨#[]⟩, .int .i64 0] 107)) fun e w' => e = .returned (.tuple #[]) ∧ Behind base w g down fuse fault ([].take 0 ++ ⟨nm, ⟨#[]⟩, 0⟩ :: [].drop 0) w' := by
    intro W hW
    have hW2 := hW.alloc (o := .cells #[.string nm, .string ⟨#[]⟩, .int .i64 0] 107) hW.size
    have hO := H.out.keep hW2
    obtain ⟨v1, w1, ad2, n2, cap2, w2, ht⟩ := two_nil (W.alloc (.cells #[.string nm, .string ⟨#[]⟩, .int .i64 0] 107)).drew ⟨nm, ⟨#[]⟩, 0⟩ _ (by
      have := src_new W ⟨nm, ⟨#[]⟩, 0⟩
      exact ⟨this.kind, this.len, this.cellsD, (by exact (src_new W.drew.drew ⟨nm, ⟨#[]⟩, 0⟩).cells), this.newsLen, this.one⟩)
    exact (put_none _ g down fuse fault _ v1 _ w1 w2 ad2 n2 cap2 base _ rfl hO.d ht (Nat.le_trans hbase hW2.size) hbg).mono fun e w' ⟨h1, h2⟩ => ⟨h1, h2.from (B := 0) (hW2.mono hbase)⟩
  have Hput := Lib.hid hput
  clear hput
  go_enter Tryz.func185, Tryz.ntmps185
  go_wp2_with fail
  refine (HF.out).mono ?_
  rintro e w1 ⟨rfl, hb⟩
  obtain ⟨x0, x1, x2, x3⟩ := box4 ((hb.block w.heap.size (by simp)).trans HXX.out)
  have HW := Lib.hid (((Below.refl w.heap.size w).alloc (Nat.le_refl _) (.cells (scells k nm dt z) 182)).trans (hb.mono (by simp)))
  clear hb
  go_wp2_with fail
  refine (Hput.out _ HW.out).mono ?_
  rintro e w2 ⟨rfl, hB⟩
  have HB := Lib.hid hB; clear hB
  go_wp2
  go_end0
  exact ⟨rfl, HB.out⟩

set_option maxHeartbeats 2000000 in
theorem remove_any (k : Int) (f : F) (h : On w g (some ⟨gb, 0, none⟩) n cap down fuse fault fs) (hgb : gb < w.heap.size) (hfr : Free w gb) (hnc : n ≤ cap) (hne : gb ≠ g) (hgbb : base ≤ gb) (hbase : base ≤ w.heap.size) (hbg : base ≤ g) (hf : found fs nm = some f) :
    Calls Tryz.prog 192 #[.pointer (some ⟨g, 0, none⟩), .agg (scells k nm dt z)] w fun e w' => e = .returned (.tuple #[]) ∧ Behind base w g down fuse fault (fs.take (pos fs nm) ++ fs.drop (pos fs nm + 1)) w' := by
  have h64 : n ≤ 64 := by rw [h.n]; exact h.r.1
  have hp : pos fs nm < n := by rw [h.n]; exact (List.getElem?_eq_some_iff.1 (found_some hf).1).1
  have HF := Lib.hid (find_any (w.alloc (.cells (scells k nm dt z) 182)) g 91 (some ⟨gb, 0, none⟩) cap n down fuse fault nm fs true (h.alloc _).d h.n (h.alloc _).f h.r (by rw [hf]; rfl))
  obtain ⟨P, hP⟩ : ∃ P, pos fs nm = P := ⟨_, rfl⟩
  rw [hP] at HF hp ⊢
  have Hfr := Lib.hid hfr
  clear hfr
  have H := Lib.hid h
  have HXX := Lib.hid (blk_new w (.cells (scells k nm dt z) 182))
  clear h hf hP
  have hput : ∀ W, Below w.heap.size w W → Calls Tryz.prog 219 #[.pointer (some ⟨g, 0, none⟩), .int .i64 (P : Int), .int .i64 ((P : Int) + 1), .slice none 0 0] W fun e w' => e = .returned (.tuple #[]) ∧ Behind base w g down fuse fault (fs.take P ++ fs.drop (P + 1)) w' := by
    intro W hW
    have hO := H.out.keep hW
    obtain ⟨v1, w1, ad2, n2, cap2, w2, ht⟩ := two_del W.drew gb n cap P (P + 1) fs hO.n (by omega) (by omega) hnc (by omega) (Nat.lt_of_lt_of_le hgb hW.size) ((Hfr.out.under hW).keep ((Below.refl W.heap.size W).drew) (Nat.lt_of_lt_of_le hgb hW.size)) (hO.f.keep (Below.refl _ _).drew)
    have := (put_some W g gb n cap P (P + 1) down fuse fault _ v1 _ w1 w2 ad2 n2 cap2 base _ rfl hO.d (by omega) (by omega) hnc (by omega) ht hne hgbb (Nat.le_trans hbase hW.size) hbg).mono fun e w' ⟨h1, h2⟩ => (⟨h1, h2.from (B := 0) (hW.mono hbase)⟩ : e = Ending.returned (.tuple #[]) ∧ Behind base w g down fuse fault (fs.take P ++ fs.drop (P + 1)) w')
    rwa [show ((P + 1 : Nat) : Int) = (P : Int) + 1 by omega] at this
  have Hput := Lib.hid hput
  clear hput
  have hpp : (P : Int) + 1 ≤ 9223372036854775807 := by omega
  have hpp0 : (0 : Int) ≤ (P : Int) := by omega
  go_enter Tryz.func192, Tryz.ntmps192
  go_wp2_with fail
  refine (HF.out).mono ?_
  rintro e w1 ⟨rfl, hb⟩
  obtain ⟨x0, x1, x2, x3⟩ := box4 ((hb.block w.heap.size (by simp)).trans HXX.out)
  have HW := Lib.hid (((Below.refl w.heap.size w).alloc (Nat.le_refl _) (.cells (scells k nm dt z) 182)).trans (hb.mono (by simp)))
  clear hb
  go_wp2_with fail
  refine (Hput.out _ HW.out).mono ?_
  rintro e w2 ⟨rfl, hB⟩
  have HB := Lib.hid hB; clear hB
  go_wp2
  go_end0
  exact ⟨rfl, HB.out⟩
end
end Go.Proofs.YtkhmdofeonlnpaaGreatDoor

/- THE WALK OVER run. -/
namespace Go.Proofs.YtkhmdofeonlnpaaGreatDoor
open Go.RowKit
set_option maxRecDepth 100000
set_option linter.unusedVariables false
set_option linter.unusedSimpArgs false

/-- block g holds a disk whose list is its own -/
structure Own (w : World) (g base : Nat) (ad : Option Addr) (n cap : Nat) (down : Bool) (fuse fault : Int) (fs : List F) : Prop where
  on : On w g ad n cap down fuse fault fs
  row : FRow w base (.slice ad n cap) fs
  far : (Value.slice ad n cap).ownBlock ≠ some g
  bw : base ≤ w.heap.size
  bg : base ≤ g
section
variable {w w' : World} {g base : Nat} {ad : Option Addr} {n cap : Nat} {down down' : Bool} {fuse fault fuse' fault' : Int} {fs : List F}
theorem Own.keep (h : Own w g base ad n cap down fuse fault fs) (hb : Below w.heap.size w w') : Own w' g base ad n cap down fuse fault fs :=
  ⟨h.on.keep hb, h.row.below hb, h.far, Nat.le_trans h.bw hb.size, h.bg⟩
/-- the disk's own cells turned -/
theorem Own.turn (h : Own w g base ad n cap down fuse fault fs) (hD : Dk w' g 91 (.slice ad n cap) down' fuse' fault') (hg : w.grownBy w' (some g)) : Own w' g base ad n cap down' fuse' fault' fs := by
  refine ⟨⟨hD, h.on.n, fun hne => ?_, h.on.r⟩, h.row.kept hg (.inr h.far), h.far, Nat.le_trans h.bw hg.size, h.bg⟩
  obtain ⟨gb, off, e, hgb, hi⟩ := h.on.f hne
  have hne' : gb ≠ g := by
    intro e'
    subst e'
    exact h.far (by rw [e]; rfl)
  have hc : ∀ j, w'.cell? ⟨gb, j, none⟩ = w.cell? ⟨gb, j, none⟩ := fun j => World.cell?_of_block (w := w) (hg.block gb hgb (by simpa using hne'))
  exact ⟨gb, off, e, Nat.lt_of_lt_of_le hgb hg.size, fun i f hf => ⟨(hc _).trans (hi i f hf).q0, (hc _).trans (hi i f hf).q1, (hc _).trans (hi i f hf).q2⟩⟩
theorem Own.inp (h : Own w g base ad n cap down fuse fault fs) : Inp w w.heap.size ad n cap fs := by
  obtain ⟨ad', cap', hv, hc, hnil, hf⟩ := h.row.fls
  simp only [Value.slice.injEq] at hv
  obtain ⟨rfl, rfl, rfl⟩ := hv
  exact ⟨rfl, hc, hnil, hf⟩
theorem Own.behind {w0 : World} (h : Own w g base ad n cap down fuse fault fs) (hb : Below base w0 w) : Behind base w0 g down fuse fault fs w := ⟨ad, n, cap, h.on.d, h.inp, hb, fun b hb => ⟨(h.row.lt b hb).1, h.row.free b hb⟩⟩
/-- where the list lies -/
theorem Own.place (h : Own w g base ad n cap down fuse fault fs) : (ad = none ∧ n = 0 ∧ cap = 0) ∨ ∃ gb, ad = some ⟨gb, 0, none⟩ ∧ gb < w.heap.size ∧ gb ≠ g ∧ n ≤ cap ∧ base ≤ gb := by
  rcases h.row.2 with ⟨hv, hn⟩ | ⟨gb, cap', cur, hv, hbg, hg, hnc, _⟩
  · simp only [Value.slice.injEq] at hv
    exact .inl hv
  · simp only [Value.slice.injEq] at hv
    obtain ⟨rfl, hn, rfl⟩ := hv
    exact .inr ⟨gb, rfl, (Array.getElem?_eq_some_iff.1 hg).1, (fun e => h.far (by rw [e]; rfl)), by omega, hbg⟩
end
def BehindD (base : Nat) (w : World) (g : Nat) (d : D) (w' : World) : Prop := Behind base w g d.down d.fuse d.fault d.files w'
theorem bd {base : Nat} {w w' : World} {g : Nat} {d : D} {down : Bool} {fuse fault : Int} {fs : List F} (h : Behind base w g down fuse fault fs w') (e : d = ⟨fs, down, fuse, fault⟩) : BehindD base w g d w' := by subst e; exact h

theorem run_down {fs : List F} {fuse fault : Int} {s : S} : run ⟨fs, true, fuse, fault⟩ s = (⟨fs, true, fuse, fault⟩, 17) := by simp [run]
theorem run_ref {fs : List F} {fuse fault : Int} {s : S} (h : ref fs s ≠ 0) : run ⟨fs, false, fuse, fault⟩ s = (⟨fs, false, fuse, fault⟩, ref fs s) := by simp [run, h]
theorem run_fault {fs : List F} {fuse fault : Int} {s : S} (h : ref fs s = 0) (h2 : fault = 0) : run ⟨fs, false, fuse, fault⟩ s = (⟨fs, false, fuse, -1⟩, 18) := by simp [run, h, h2]
theorem run_fuse {fs : List F} {fuse fault : Int} {s : S} (h : ref fs s = 0) (h2 : ¬ fault = 0) (h3 : fuse = 0) : run ⟨fs, false, fuse, fault⟩ s = (⟨half fs s, true, 0, dec fault⟩, 17) := by simp [run, h, h2, h3]
theorem run_done {fs : List F} {fuse fault : Int} {s : S} (h : ref fs s = 0) (h2 : ¬ fault = 0) (h3 : ¬ fuse = 0) : run ⟨fs, false, fuse, fault⟩ s = (⟨eff fs s, false, dec fuse, dec fault⟩, 0) := by simp [run, h, h2, h3]

/-- what run needs of a kind's three functions -/
structure Kind3 (g base : Nat) (ad : Option Addr) (n cap : Nat) (fs : List F) (s : S) (a b c : Nat) : Prop where
  ea : ∀ args w, (callFunc a args).run Tryz.prog w = .ok (.enter a args) w
  eb : ∀ args w, (callFunc b args).run Tryz.prog w = .ok (.enter b args) w
  ec : ∀ args w, (callFunc c args).run Tryz.prog w = .ok (.enter c args) w
  re : ∀ w down fuse fault, Own w g base ad n cap down fuse fault fs → Calls Tryz.prog a #[.pointer (some ⟨g, 0, none⟩), .agg (scells s.kind s.name s.data s.size)] w fun e w' => e = .returned (.int .i64 (ref fs s)) ∧ Below w.heap.size w w'
  do_ : ∀ w down fuse fault, Own w g base ad n cap down fuse fault fs → ref fs s = 0 → Calls Tryz.prog b #[.pointer (some ⟨g, 0, none⟩), .agg (scells s.kind s.name s.data s.size)] w fun e w' => e = .returned (.tuple #[]) ∧ Behind base w g down fuse fault (eff fs s) w'
  ha : ∀ w down fuse fault, Own w g base ad n cap down fuse fault fs → ref fs s = 0 → Calls Tryz.prog c #[.pointer (some ⟨g, 0, none⟩), .agg (scells s.kind s.name s.data s.size)] w fun e w' => e = .returned (.tuple #[]) ∧ Behind base w g down fuse fault (half fs s) w'

/-- the boxes of run's arguments -/
structure Bx (w : World) (a b c : Nat) (k : Int) (nm dt : ByteArray) (z : Int) (W : World) : Prop where
  x : W.heap[w.heap.size]? = some (.cells #[fnv a, fnv b, fnv c] 213)
  y : W.heap[w.heap.size + 1]? = some (.cells (scells k nm dt z) 182)
section
variable {w : World} {a b c : Nat} {k : Int} {nm dt : ByteArray} {z : Int}
theorem Bx.start : Bx w a b c k nm dt z ((w.alloc (.cells #[fnv a, fnv b, fnv c] 213)).alloc (.cells (scells k nm dt z) 182)) :=
  ⟨blk_alloc (blk_new w _) _, by have := blk_new (w.alloc (.cells #[fnv a, fnv b, fnv c] 213)) (.cells (scells k nm dt z) 182); simpa using this⟩
theorem Bx.below {W W' : World} (h : Bx w a b c k nm dt z W) (hb : Below W.heap.size W W') : Bx w a b c k nm dt z W' :=
  ⟨(hb.block _ (Array.getElem?_eq_some_iff.1 h.x).1).trans h.x, (hb.block _ (Array.getElem?_eq_some_iff.1 h.y).1).trans h.y⟩
theorem Bx.grown {W W' : World} {g : Nat} (h : Bx w a b c k nm dt z W) (hb : W.grownBy W' (some g)) (hg : g < w.heap.size) : Bx w a b c k nm dt z W' :=
  ⟨(hb.block _ (Array.getElem?_eq_some_iff.1 h.x).1 (by simp; omega)).trans h.x, (hb.block _ (Array.getElem?_eq_some_iff.1 h.y).1 (by simp; omega)).trans h.y⟩
theorem below_of_grown {W W' : World} {g B : Nat} (hb : W.grownBy W' (some g)) (hB : B ≤ W.heap.size) (hg : B ≤ g) : Below B W W' :=
  ⟨hb.os, hb.tape, hb.output, hb.size, fun i hi => hb.block i (by omega) (by simp; omega)⟩

end
section
variable (w : World) (g base : Nat) (ad : Option Addr) (n cap : Nat) (fuse fault : Int) (fs : List F) (k : Int) (nm dt : ByteArray) (z : Int) (a b c : Nat)
theorem run_1 (h : Own w g base ad n cap true fuse fault fs) :
    Calls Tryz.prog 148 #[.pointer (some ⟨g, 0, none⟩), chv a b c, .agg (scells k nm dt z)] w fun e w' => e = .returned (.int .i64 17) ∧ Behind base w g true fuse fault fs w' := by
  have H := Lib.hid h
  obtain ⟨⟨d0, d1, d2, d3⟩, _⟩ := h.on.d.facts
  have hlt := h.on.d.lt
  clear h
  go_enter Tryz.func148, Tryz.ntmps148
  go_wp2
  go_ret
  exact ⟨rfl, (H.out.keep (((Below.refl _ w).alloc (Nat.le_refl _) _).alloc (by simp) _)).behind ((((Below.refl _ w).alloc (Nat.le_refl _) _).alloc (by simp) _).mono H.out.bw)⟩
theorem fn3_box {w : World} {a b c : Nat} {t : TypeId} : (w.alloc (.cells #[fnv a, fnv b, fnv c] t)).heap[w.heap.size]? = some (.cells #[fnv a, fnv b, fnv c] t) := blk_new w _

set_option maxHeartbeats 2000000 in
theorem run_2 (h : Own w g base ad n cap false fuse fault fs) (K : Kind3 g base ad n cap fs ⟨k, nm, dt, z⟩ a b c) (r : Int) (hr : ref fs ⟨k, nm, dt, z⟩ = r) (hr0 : ¬ r = 0) :
    Calls Tryz.prog 148 #[.pointer (some ⟨g, 0, none⟩), chv a b c, .agg (scells k nm dt z)] w fun e w' => e = .returned (.int .i64 r) ∧ Behind base w g false fuse fault fs w' := by
  have H := Lib.hid h
  obtain ⟨⟨d0, d1, d2, d3⟩, _⟩ := h.on.d.facts
  have hlt := h.on.d.lt
  have hb0 : Below w.heap.size w ((w.alloc (.cells #[fnv a, fnv b, fnv c] 213)).alloc (.cells (scells k nm dt z) 182)) := ((Below.refl _ w).alloc (Nat.le_refl _) _).alloc (by simp) _
  have hre := K.re _ _ _ _ (h.keep hb0)
  rw [hr] at hre
  have Hre := Lib.hid hre
  have Hb0 := Lib.hid hb0
  have ea := K.ea
  have hr1 : (r == 0) = false := by simp [hr0]
  clear h hre hb0 K hr
  go_enter Tryz.func148, Tryz.ntmps148
  go_wp2_with fail
  refine (Hre.out).mono ?_
  rintro e w1 ⟨rfl, hb⟩
  have Hb := Lib.hid (Hb0.out.trans (hb.mono Hb0.out.size)); clear hb
  go_wp2
  go_ret
  exact ⟨rfl, (H.out.keep Hb.out).behind (Hb.out.mono H.out.bw)⟩
set_option maxHeartbeats 2000000 in
theorem run_3 (h : Own w g base ad n cap false fuse fault fs) (K : Kind3 g base ad n cap fs ⟨k, nm, dt, z⟩ a b c) (hr : ref fs ⟨k, nm, dt, z⟩ = 0) (hf : fault = 0) (f0 : -9223372036854775808 ≤ fault) (f1 : fault ≤ 9223372036854775807) :
    Calls Tryz.prog 148 #[.pointer (some ⟨g, 0, none⟩), chv a b c, .agg (scells k nm dt z)] w fun e w' => e = .returned (.int .i64 18) ∧ Behind base w g false fuse (-1) fs w' := by
  have H := Lib.hid h
  obtain ⟨⟨d0, d1, d2, d3⟩, _⟩ := h.on.d.facts
  have hlt := h.on.d.lt
  have hb0 : Below w.heap.size w ((w.alloc (.cells #[fnv a, fnv b, fnv c] 213)).alloc (.cells (scells k nm dt z) 182)) := ((Below.refl _ w).alloc (Nat.le_refl _) _).alloc (by simp) _
  have hbx : Bx w a b c k nm dt z ((w.alloc (.cells #[fnv a, fnv b, fnv c] 213)).alloc (.cells (scells k nm dt z) 182)) := Bx.start
  have hO0 := h.keep hb0
  have hre := K.re _ _ _ _ hO0
  rw [hr] at hre
  have Hre := Lib.hid hre
  have Hb0 := Lib.hid hb0
  have HO0 := Lib.hid hO0
  have HB0 := Lib.hid hbx
  have ea := K.ea
  have eb := K.eb
  have ec := K.ec
  have HK := Lib.hid K
  have Hr := Lib.hid hr
  clear h hre hb0 K hr hO0 hbx
  go_enter Tryz.func148, Tryz.ntmps148
  go_wp2_with fail
  refine (Hre.out).mono ?_
  rintro e w1 ⟨rfl, hb⟩
  have hO1 := HO0.out.keep hb
  have Hb1 := Lib.hid (Hb0.out.trans (hb.mono Hb0.out.size))
  have HB1 := Lib.hid (HB0.out.below hb)
  have HO1 := Lib.hid hO1
  have hcf := comes_fault w1 g 91 _ _ fuse fault hO1.on.d f0 f1
  have Hcf := Lib.hid hcf
  clear hb hO1 hcf
  have hz : isZero fault = true := decide_eq_true hf
  rw [hz] at Hcf
  clear hz hf
  go_wp2_with fail
  refine (Hcf.out).mono ?_
  rintro e w2 ⟨rfl, hD2, hg2⟩
  have hO2 := HO1.out.turn hD2 hg2
  have HO2 := Lib.hid hO2
  have Hb2 := Lib.hid ((Hb1.out.mono H.out.bw).trans (below_of_grown hg2 HO1.out.bw H.out.bg))
  obtain ⟨⟨e0, e1, e2, e3⟩, _, _, _, z3⟩ := hD2.facts
  have hlt2 := hD2.lt
  clear hD2 hg2 hO2
  go_wp2
  go_ret
  refine ⟨rfl, (HO2.out.turn (HO2.out.on.d.set3 (-1)) (grown_set _ _ _ _)).behind ?_⟩
  exact Hb2.out.setCell (by exact H.out.bg) _

set_option maxHeartbeats 4000000 in
theorem run_4 (h : Own w g base ad n cap false fuse fault fs) (K : Kind3 g base ad n cap fs ⟨k, nm, dt, z⟩ a b c) (hr : ref fs ⟨k, nm, dt, z⟩ = 0) (hf : ¬ fault = 0) (hu : fuse = 0) (f0 : -9223372036854775808 ≤ fault) (f1 : fault ≤ 9223372036854775807) :
    Calls Tryz.prog 148 #[.pointer (some ⟨g, 0, none⟩), chv a b c, .agg (scells k nm dt z)] w fun e w' => e = .returned (.int .i64 17) ∧ Behind base w g true 0 (dec fault) (half fs ⟨k, nm, dt, z⟩) w' := by
  obtain ⟨fl, hfl⟩ : ∃ fl, dec fault = fl := ⟨_, rfl⟩
  rw [hfl]
  have Hfl := Lib.hid hfl
  clear hfl
  have H := Lib.hid h
  obtain ⟨⟨d0, d1, d2, d3⟩, _⟩ := h.on.d.facts
  have hlt := h.on.d.lt
  have hb0 : Below w.heap.size w ((w.alloc (.cells #[fnv a, fnv b, fnv c] 213)).alloc (.cells (scells k nm dt z) 182)) := ((Below.refl _ w).alloc (Nat.le_refl _) _).alloc (by simp) _
  have hbx : Bx w a b c k nm dt z ((w.alloc (.cells #[fnv a, fnv b, fnv c] 213)).alloc (.cells (scells k nm dt z) 182)) := Bx.start
  have hO0 := h.keep hb0
  have hre := K.re _ _ _ _ hO0
  rw [hr] at hre
  have Hre := Lib.hid hre
  have Hb0 := Lib.hid hb0
  have HO0 := Lib.hid hO0
  have HB0 := Lib.hid hbx
  have ea := K.ea
  have eb := K.eb
  have ec := K.ec
  have HK := Lib.hid K
  have Hr := Lib.hid hr
  clear h hre hb0 K hr hO0 hbx
  go_enter Tryz.func148, Tryz.ntmps148
  go_wp2_with fail
  refine (Hre.out).mono ?_
  rintro e w1 ⟨rfl, hb⟩
  have hO1 := HO0.out.keep hb
  have Hb1 := Lib.hid (Hb0.out.trans (hb.mono Hb0.out.size))
  have HB1 := Lib.hid (HB0.out.below hb)
  have HO1 := Lib.hid hO1
  have hcf := comes_fault w1 g 91 _ _ fuse fault hO1.on.d f0 f1
  have Hcf := Lib.hid hcf
  clear hb hO1 hcf
  have hz : isZero fault = false := decide_eq_false hf
  rw [hz] at Hcf
  subst hu
  rw [Hfl.out] at Hcf
  clear hz hf
  go_wp2_with fail
  refine (Hcf.out).mono ?_
  rintro e w2 ⟨rfl, hD2, hg2⟩
  have hO2 := HO1.out.turn hD2 hg2
  have HO2 := Lib.hid hO2
  have Hb2 := Lib.hid ((Hb1.out.mono H.out.bw).trans (below_of_grown hg2 HO1.out.bw H.out.bg))
  have HB2 := Lib.hid (HB1.out.grown hg2 hlt)
  have hcu := comes_fuse w2 g 91 _ _ 0 fl hO2.on.d (by omega) (by omega)
  have Hcu := Lib.hid hcu
  clear hD2 hg2 hO2 hcu
  go_wp2_with fail
  refine (Hcu.out).mono ?_
  rw [show isZero 0 = true from rfl, show dec 0 = 0 from rfl]
  rintro e w3 ⟨rfl, hD3, hg3⟩
  have hO3 := HO2.out.turn hD3 hg3
  have HO3 := Lib.hid hO3
  have Hb3 := Lib.hid (Hb2.out.trans (below_of_grown hg3 HO2.out.bw H.out.bg))
  have HB3 := Lib.hid (HB2.out.grown hg3 hlt)
  obtain ⟨⟨e0, e1, e2, e3⟩, _, z1, _, _⟩ := hD3.facts
  have HO4 := Lib.hid (hO3.turn (hD3.set1 true) (grown_set _ _ _ _))
  have HB4 := Lib.hid (HB3.out.grown (grown_set w3 g 1 (.bool true)) hlt)
  have Hha := Lib.hid (HK.out.ha _ _ _ _ HO4.out Hr.out)
  have Hb4 := Lib.hid (Hb3.out.setCell (p := ⟨g, 1, none⟩) (by exact H.out.bg) (.bool true))
  obtain ⟨x0, x1, x2⟩ := box3 HB4.out.x
  obtain ⟨y0, y1, y2, y3⟩ := box4 HB4.out.y
  obtain ⟨v0, v1, v2⟩ := box3 HB3.out.x
  obtain ⟨u0, u1, u2, u3⟩ := box4 HB3.out.y
  clear hD3 hg3 hO3
  go_wp2_with fail
  refine (Hha.out).mono ?_
  rintro e w5 ⟨rfl, hB5⟩
  have HB5 := Lib.hid (hB5.from (B := 0) Hb4.out)
  clear hB5
  go_wp2
  go_ret
  exact ⟨rfl, HB5.out⟩

set_option maxHeartbeats 4000000 in
theorem run_5 (h : Own w g base ad n cap false fuse fault fs) (K : Kind3 g base ad n cap fs ⟨k, nm, dt, z⟩ a b c) (hr : ref fs ⟨k, nm, dt, z⟩ = 0) (hf : ¬ fault = 0) (hu : ¬ fuse = 0) (f0 : -9223372036854775808 ≤ fault) (f1 : fault ≤ 9223372036854775807)
    (u0 : -9223372036854775808 ≤ fuse) (u1 : fuse ≤ 9223372036854775807) :
    Calls Tryz.prog 148 #[.pointer (some ⟨g, 0, none⟩), chv a b c, .agg (scells k nm dt z)] w fun e w' => e = .returned (.int .i64 0) ∧ Behind base w g false (dec fuse) (dec fault) (eff fs ⟨k, nm, dt, z⟩) w' := by
  obtain ⟨fl, hfl⟩ : ∃ fl, dec fault = fl := ⟨_, rfl⟩
  obtain ⟨fu, hfu⟩ : ∃ fu, dec fuse = fu := ⟨_, rfl⟩
  rw [hfl, hfu]
  have Hfl := Lib.hid hfl
  have Hfu := Lib.hid hfu
  clear hfl hfu
  have H := Lib.hid h
  obtain ⟨⟨d0, d1, d2, d3⟩, _⟩ := h.on.d.facts
  have hlt := h.on.d.lt
  have hb0 : Below w.heap.size w ((w.alloc (.cells #[fnv a, fnv b, fnv c] 213)).alloc (.cells (scells k nm dt z) 182)) := ((Below.refl _ w).alloc (Nat.le_refl _) _).alloc (by simp) _
  have hbx : Bx w a b c k nm dt z ((w.alloc (.cells #[fnv a, fnv b, fnv c] 213)).alloc (.cells (scells k nm dt z) 182)) := Bx.start
  have hO0 := h.keep hb0
  have hre := K.re _ _ _ _ hO0
  rw [hr] at hre
  have Hre := Lib.hid hre
  have Hb0 := Lib.hid hb0
  have HO0 := Lib.hid hO0
  have HB0 := Lib.hid hbx
  have ea := K.ea
  have eb := K.eb
  have ec := K.ec
  have HK := Lib.hid K
  have Hr := Lib.hid hr
  clear h hre hb0 K hr hO0 hbx
  go_enter Tryz.func148, Tryz.ntmps148
  go_wp2_with fail
  refine (Hre.out).mono ?_
  rintro e w1 ⟨rfl, hb⟩
  have hO1 := HO0.out.keep hb
  have Hb1 := Lib.hid (Hb0.out.trans (hb.mono Hb0.out.size))
  have HB1 := Lib.hid (HB0.out.below hb)
  have HO1 := Lib.hid hO1
  have hcf := comes_fault w1 g 91 _ _ fuse fault hO1.on.d f0 f1
  have Hcf := Lib.hid hcf
  clear hb hO1 hcf
  have hz : isZero fault = false := decide_eq_false hf
  rw [hz] at Hcf
  have hzu : isZero fuse = false := decide_eq_false hu
  rw [Hfl.out] at Hcf
  have Hzu := Lib.hid hzu
  clear hz hf hu hzu
  go_wp2_with fail
  refine (Hcf.out).mono ?_
  rintro e w2 ⟨rfl, hD2, hg2⟩
  have hO2 := HO1.out.turn hD2 hg2
  have HO2 := Lib.hid hO2
  have Hb2 := Lib.hid ((Hb1.out.mono H.out.bw).trans (below_of_grown hg2 HO1.out.bw H.out.bg))
  have HB2 := Lib.hid (HB1.out.grown hg2 hlt)
  have hcu := comes_fuse w2 g 91 _ _ fuse fl hO2.on.d u0 u1
  rw [Hzu.out, Hfu.out] at hcu
  have Hcu := Lib.hid hcu
  clear hD2 hg2 hO2 hcu
  go_wp2_with fail
  refine (Hcu.out).mono ?_
  rintro e w3 ⟨rfl, hD3, hg3⟩
  have hO3 := HO2.out.turn hD3 hg3
  have Hb3 := Lib.hid (Hb2.out.trans (below_of_grown hg3 HO2.out.bw H.out.bg))
  have HB3 := Lib.hid (HB2.out.grown hg3 hlt)
  have Hdo := Lib.hid (HK.out.do_ _ _ _ _ hO3 Hr.out)
  obtain ⟨v0, v1, v2⟩ := box3 HB3.out.x
  obtain ⟨u0, u1, u2, u3⟩ := box4 HB3.out.y
  clear hD3 hg3 hO3
  go_wp2_with fail
  refine (Hdo.out).mono ?_
  rintro e w5 ⟨rfl, hB5⟩
  have HB5 := Lib.hid (hB5.from (B := 0) Hb3.out)
  clear hB5
  go_wp2
  go_ret
  exact ⟨rfl, HB5.out⟩
end
end Go.Proofs.YtkhmdofeonlnpaaGreatDoor

/- THE FIVE KINDS of changes, each as run needs it. -/
namespace Go.Proofs.YtkhmdofeonlnpaaGreatDoor
open Go.RowKit
set_option maxRecDepth 100000
set_option linter.unusedVariables false
set_option linter.unusedSimpArgs false

theorem eff1 {fs : List F} {n d : ByteArray} {z : Int} : eff fs ⟨1, n, d, z⟩ = fs.take (pos fs n) ++ ⟨n, ⟨#[]⟩, 0⟩ :: fs.drop (pos fs n) := by simp [eff]
theorem eff2 {fs : List F} {n d : ByteArray} {z : Int} {f : F} (h : found fs n = some f) : eff fs ⟨2, n, d, z⟩ = fs.set (pos fs n) ⟨f.name, f.data ++ d, f.syn⟩ := by simp [eff, h]
theorem eff3 {fs : List F} {n d : ByteArray} {z : Int} {f : F} (h : found fs n = some f) : eff fs ⟨3, n, d, z⟩ = fs.set (pos fs n) ⟨f.name, f.data, f.data.size⟩ := by simp [eff, h]
theorem eff4 {fs : List F} {n d : ByteArray} {z : Int} {f : F} (h : found fs n = some f) : eff fs ⟨4, n, d, z⟩ = fs.set (pos fs n) ⟨f.name, f.data.extract 0 z.toNat, z⟩ := by simp [eff, h]
theorem eff5 {fs : List F} {n d : ByteArray} {z : Int} {f : F} (h : found fs n = some f) : eff fs ⟨5, n, d, z⟩ = fs.take (pos fs n) ++ fs.drop (pos fs n + 1) := by simp [eff, h]
theorem half_not {fs : List F} {k : Int} {n d : ByteArray} {z : Int} (h : ¬ k = 2) : half fs ⟨k, n, d, z⟩ = fs := by simp [half, h]
theorem half_two {fs : List F} {n d : ByteArray} {z : Int} : half fs ⟨2, n, d, z⟩ = eff fs ⟨2, n, d, z⟩ := by simp [half]
theorem ref_found {fs : List F} {k : Int} {n d : ByteArray} {z : Int} (hk : ¬ k = 1) (h : ref fs ⟨k, n, d, z⟩ = 0) : ∃ f, found fs n = some f := by
  cases hf : found fs n with
  | some f => exact ⟨f, rfl⟩
  | none => rw [refN hk hf] at h; cases h
theorem ref_new {fs : List F} {n d : ByteArray} {z : Int} (h : ref fs ⟨1, n, d, z⟩ = 0) : okN n ∧ found fs n = none ∧ fs.length ≠ 64 := by
  rw [ref1] at h
  by_cases c : okN n
  · rw [if_pos c] at h
    cases hf : found fs n with
    | some f => rw [hf] at h; simp at h
    | none =>
      rw [hf] at h
      simp only [Option.isSome_none, Bool.false_eq_true, if_false] at h
      by_cases c64 : fs.length = 64
      · rw [if_pos c64] at h; cases h
      · exact ⟨c, rfl, c64⟩
  · rw [if_neg c] at h; cases h
theorem ref_more {fs : List F} {n d : ByteArray} {z : Int} {f : F} (hf : found fs n = some f) (h : ref fs ⟨2, n, d, z⟩ = 0) : d.size ≤ 262144 - f.data.size := by
  rw [ref2 hf] at h
  by_cases c : 262144 - f.data.size < d.size
  · rw [if_pos c] at h; cases h
  · omega
theorem ref_size {fs : List F} {n d : ByteArray} {z : Int} {f : F} (hf : found fs n = some f) (h : ref fs ⟨4, n, d, z⟩ = 0) : 0 ≤ z ∧ z ≤ (f.data.size : Int) := by
  rw [ref4 hf] at h
  by_cases c : z < 0 ∨ (f.data.size : Int) < z
  · rw [if_pos c] at h; cases h
  · omega
theorem behind_row {base : Nat} {w w' : World} {g : Nat} {ad : Option Addr} {n cap : Nat} {down : Bool} {fuse fault : Int} {out : List F} (hD : Dk w' g 91 (.slice ad n cap) down fuse fault) (hR : FRow w' base (.slice ad n cap) out) (hb : Below base w w') : Behind base w g down fuse fault out w' := by
  obtain ⟨ad', cap', hv, hi⟩ := Inp.of_row hR
  simp only [Value.slice.injEq] at hv
  obtain ⟨rfl, rfl, rfl⟩ := hv
  exact ⟨ad, _, cap, hD, hi, hb, fun b hb => ⟨(hR.lt b hb).1, hR.free b hb⟩⟩
theorem Own.here {w : World} {g base : Nat} {ad : Option Addr} {n cap : Nat} {down : Bool} {fuse fault : Int} {fs : List F} (h : Own w g base ad n cap down fuse fault fs) {nm : ByteArray} {f : F} (hf : found fs nm = some f) :
    ∃ gb, ad = some ⟨gb, 0, none⟩ ∧ gb < w.heap.size ∧ gb ≠ g ∧ n ≤ cap ∧ base ≤ gb := by
  rcases h.place with ⟨_, hn, _⟩ | h'
  · have := h.on.n
    have h0 : fs = [] := List.eq_nil_of_length_eq_zero (by omega)
    subst h0
    cases found_mem hf
  · exact h'
theorem still {w : World} {g base : Nat} {ad : Option Addr} {n cap : Nat} {down : Bool} {fuse fault : Int} {fs : List F} (h : Own w g base ad n cap down fuse fault fs) (x : Value) (k : Int) (nm dt : ByteArray) (z : Int) :
    Calls Tryz.prog 183 #[x, .agg (scells k nm dt z)] w fun e w' => e = .returned (.tuple #[]) ∧ Behind base w g down fuse fault fs w' :=
  (nothing_any x k nm dt z w).mono fun e w' ⟨h1, h2⟩ => ⟨h1, (h.keep h2).behind (h2.mono h.bw)⟩

section
variable (g base : Nat) (ad : Option Addr) (n cap : Nat) (fs : List F) (nm dt : ByteArray) (z : Int)
theorem kind1 (hs : nm.size ≤ 9223372036854775807) : Kind3 g base ad n cap fs ⟨1, nm, dt, z⟩ 184 185 183 where
  ea := fun args w => rfl
  eb := fun args w => rfl
  ec := fun args w => rfl
  re := fun w down fuse fault h => ref_42 w g ad n cap down fuse fault fs nm dt z 1 h.on hs
  do_ := fun w down fuse fault h h0 => by
    obtain ⟨_, hf, _⟩ := ref_new h0
    rw [eff1]
    rcases h.place with ⟨rfl, rfl, rfl⟩ | ⟨gb, rfl, h1, h2, h3, h4⟩
    · exact create_none w g base down fuse fault fs nm dt z 1 h.on h.bw h.bg hf
    · exact create_some w g base gb n cap down fuse fault fs nm dt z 1 h.on h1 h3 h2 h4 h.bw h.bg hf
  ha := fun w down fuse fault h h0 => by rw [half_not (by omega)]; exact still h _ _ _ _ _
theorem kind2 (hs : dt.size ≤ 9223372036854775807) : Kind3 g base ad n cap fs ⟨2, nm, dt, z⟩ 186 187 187 := by
  have hdo : ∀ w down fuse fault, Own w g base ad n cap down fuse fault fs → ref fs ⟨2, nm, dt, z⟩ = 0 → Calls Tryz.prog 187 #[.pointer (some ⟨g, 0, none⟩), .agg (scells 2 nm dt z)] w fun e w' => e = .returned (.tuple #[]) ∧ Behind base w g down fuse fault (eff fs ⟨2, nm, dt, z⟩) w' := by
    intro w down fuse fault h h0
    obtain ⟨f, hf⟩ := ref_found (by omega) h0
    have hm := ref_more hf h0
    rw [eff2 hf]
    obtain ⟨gb, rfl, h1, h2, h3, h4⟩ := h.here hf
    exact (add_any w g base gb n cap down fuse fault fs nm dt z f 2 h.on h.row (fun e => h2 e.symm) hf (by omega)).mono fun e w' ⟨a, b, c, d⟩ => ⟨a, behind_row b c d⟩
  exact {
    ea := fun args w => rfl
    eb := fun args w => rfl
    ec := fun args w => rfl
    re := fun w down fuse fault h => ref_44 w g ad n cap down fuse fault fs nm dt z 2 h.on hs
    do_ := hdo
    ha := fun w down fuse fault h h0 => by rw [half_two]; exact hdo w down fuse fault h h0 }
theorem kind3 : Kind3 g base ad n cap fs ⟨3, nm, dt, z⟩ 188 189 183 where
  ea := fun args w => rfl
  eb := fun args w => rfl
  ec := fun args w => rfl
  re := fun w down fuse fault h => ref_46 w g ad n cap down fuse fault fs nm dt z 3 3 (.inl rfl) h.on
  do_ := fun w down fuse fault h h0 => by
    obtain ⟨f, hf⟩ := ref_found (by omega) h0
    rw [eff3 hf]
    obtain ⟨gb, rfl, h1, h2, h3, h4⟩ := h.here hf
    exact (sync_any w g base gb n cap down fuse fault fs nm dt z f 3 h.on h.row (fun e => h2 e.symm) hf).mono fun e w' ⟨a, b, c, d⟩ => ⟨a, behind_row b c d⟩
  ha := fun w down fuse fault h h0 => by rw [half_not (by omega)]; exact still h _ _ _ _ _
theorem kind4 : Kind3 g base ad n cap fs ⟨4, nm, dt, z⟩ 190 191 183 where
  ea := fun args w => rfl
  eb := fun args w => rfl
  ec := fun args w => rfl
  re := fun w down fuse fault h => ref_48 w g ad n cap down fuse fault fs nm dt z 4 h.on
  do_ := fun w down fuse fault h h0 => by
    obtain ⟨f, hf⟩ := ref_found (by omega) h0
    obtain ⟨z0, z1⟩ := ref_size hf h0
    rw [eff4 hf]
    obtain ⟨gb, rfl, h1, h2, h3, h4⟩ := h.here hf
    exact (cut_any w g base gb n cap down fuse fault fs nm dt z f 4 h.on h.row (fun e => h2 e.symm) hf z0 z1).mono fun e w' ⟨a, b, c, d⟩ => ⟨a, behind_row b c d⟩
  ha := fun w down fuse fault h h0 => by rw [half_not (by omega)]; exact still h _ _ _ _ _
theorem kind5 : Kind3 g base ad n cap fs ⟨5, nm, dt, z⟩ 188 192 183 where
  ea := fun args w => rfl
  eb := fun args w => rfl
  ec := fun args w => rfl
  re := fun w down fuse fault h => ref_46 w g ad n cap down fuse fault fs nm dt z 5 5 (.inr rfl) h.on
  do_ := fun w down fuse fault h h0 => by
    obtain ⟨f, hf⟩ := ref_found (by omega) h0
    rw [eff5 hf]
    obtain ⟨gb, rfl, h1, h2, h3, h4⟩ := h.here hf
    exact remove_any w g base gb n cap down fuse fault fs nm dt z 5 f h.on h1 (h.row.free gb rfl) h3 h2 h4 h.bw h.bg hf
  ha := fun w down fuse fault h h0 => by rw [half_not (by omega)]; exact still h _ _ _ _ _
end

/-- run, whatever it meets -/
theorem run_any (w : World) (g base : Nat) (ad : Option Addr) (n cap : Nat) (down : Bool) (fuse fault : Int) (fs : List F) (k : Int) (nm dt : ByteArray) (z : Int) (a b c : Nat)
    (h : Own w g base ad n cap down fuse fault fs) (K : Kind3 g base ad n cap fs ⟨k, nm, dt, z⟩ a b c) (f0 : -9223372036854775808 ≤ fault) (f1 : fault ≤ 9223372036854775807) (u0 : -9223372036854775808 ≤ fuse) (u1 : fuse ≤ 9223372036854775807) :
    Calls Tryz.prog 148 #[.pointer (some ⟨g, 0, none⟩), chv a b c, .agg (scells k nm dt z)] w fun e w' => e = .returned (.int .i64 (run ⟨fs, down, fuse, fault⟩ ⟨k, nm, dt, z⟩).2) ∧ BehindD base w g (run ⟨fs, down, fuse, fault⟩ ⟨k, nm, dt, z⟩).1 w' := by
  cases down with
  | true =>
    rw [run_down]
    exact run_1 w g base ad n cap fuse fault fs k nm dt z a b c h
  | false =>
    by_cases h0 : ref fs ⟨k, nm, dt, z⟩ = 0
    · by_cases h1 : fault = 0
      · rw [run_fault h0 h1]
        exact run_3 w g base ad n cap fuse fault fs k nm dt z a b c h K h0 h1 f0 f1
      · by_cases h2 : fuse = 0
        · rw [run_fuse h0 h1 h2]
          exact run_4 w g base ad n cap fuse fault fs k nm dt z a b c h K h0 h1 h2 f0 f1
        · rw [run_done h0 h1 h2]
          exact run_5 w g base ad n cap fuse fault fs k nm dt z a b c h K h0 h1 h2 f0 f1 u0 u1
    · rw [run_ref h0]
      exact run_2 w g base ad n cap fuse fault fs k nm dt z a b c h K _ rfl h0
end Go.Proofs.YtkhmdofeonlnpaaGreatDoor
