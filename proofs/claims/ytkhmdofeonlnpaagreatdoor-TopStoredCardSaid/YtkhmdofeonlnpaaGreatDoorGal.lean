/- PLAIN MATHEMATICS of disks: what is right stays right; a change of one file changes no other one; crashes. No program is imported. -/
import Derived.Test.YtkhmdofeonlnpaaGreatDoorGak
import Derived.Deep.Cut
namespace Go.Proofs.YtkhmdofeonlnpaaGreatDoor
open Go.RowKit
set_option linter.unusedVariables false

theorem right_iff {fs : List F} : Right fs ↔ fs.length ≤ 64 ∧ (∀ f ∈ fs, okF f) ∧ (fs.map F.name).Pairwise (fun a b => lt a b = true) := by
  constructor
  · intro h
    refine ⟨h.1, h.ok, ?_⟩
    rw [List.pairwise_iff_getElem]
    intro i j hi hj hij
    simp only [List.length_map] at hi hj
    simp only [List.getElem_map]
    exact h.rise j i _ _ hij (List.getElem?_eq_getElem hi) (List.getElem?_eq_getElem hj)
  · rintro ⟨h1, h2, h3⟩
    refine ⟨h1, fun i hi f hf => ⟨h2 f (List.mem_of_getElem? hf), fun p h0 hp => ?_⟩⟩
    rw [List.pairwise_iff_getElem] at h3
    have hi' : i - 1 < fs.length := by omega
    have := h3 (i - 1) i (by simpa using hi') (by simpa using hi) (by omega)
    simp only [List.getElem_map] at this
    rw [List.getElem?_eq_getElem hi] at hf
    rw [List.getElem?_eq_getElem hi'] at hp
    injection hf with hf; injection hp with hp
    rwa [hf, hp] at this

theorem found_iff {fs : List F} (hR : Right fs) {b : ByteArray} {f : F} : found fs b = some f ↔ f ∈ fs ∧ f.name = b := by
  constructor
  · intro h; exact ⟨List.mem_of_getElem? (found_some h).1, (found_some h).2⟩
  · rintro ⟨hm, hn⟩
    obtain ⟨i, hi⟩ := List.getElem?_of_mem hm
    have hil := (List.getElem?_eq_some_iff.1 hi).1
    have hp : pos fs b = i := by
      refine pos_unique i (Nat.le_of_lt hil) (fun j g hj hg => ?_) (fun g hg => ?_)
      · rw [← hn]; exact hR.rise i j g f hj hg hi
      · rw [hi] at hg; injection hg with hg; subst hg; rw [hn]; exact lt_irrefl _
    unfold found
    rw [hp, hi]
    simp [hn]

theorem right_set {fs : List F} (hR : Right fs) {i : Nat} {f g : F} (hf : fs[i]? = some f) (hn : g.name = f.name) (hg : okF g) : Right (fs.set i g) := by
  rw [right_iff] at hR ⊢
  obtain ⟨h1, h2, h3⟩ := hR
  refine ⟨by rw [List.length_set]; exact h1, fun x hx => ?_, ?_⟩
  · rcases List.mem_or_eq_of_mem_set hx with h | h
    · exact h2 x h
    · subst h; exact hg
  · have : (fs.set i g).map F.name = fs.map F.name := by
      rw [List.map_set]
      apply List.ext_getElem?
      intro j
      by_cases e : i = j
      · subst e
        have hl := (List.getElem?_eq_some_iff.1 hf).1
        rw [List.getElem?_set_self (by simpa using hl), List.getElem?_map, hf, hn]; rfl
      · rw [List.getElem?_set_ne e]
    rw [this]; exact h3
theorem right_ins {fs : List F} (hR : Right fs) {n : ByteArray} {g : F} (hn : g.name = n) (hg : okF g) (hf : found fs n = none) (hl : fs.length ≠ 64) : Right (fs.take (pos fs n) ++ g :: fs.drop (pos fs n)) := by
  have hR' := hR
  have hpl := pos_le fs n
  rw [right_iff] at hR ⊢
  obtain ⟨h1, h2, h3⟩ := hR
  refine ⟨?_, fun x hx => ?_, ?_⟩
  · simp only [List.length_append, List.length_take, List.length_cons, List.length_drop]; omega
  · rcases List.mem_append.1 hx with h | h
    · exact h2 x (List.mem_of_mem_take h)
    · rcases List.mem_cons.1 h with h | h
      · subst h; exact hg
      · exact h2 x (List.mem_of_mem_drop h)
  · rw [List.map_append, List.map_cons, List.pairwise_append, List.pairwise_cons]
    have ht : ∀ a ∈ (fs.take (pos fs n)).map F.name, lt a n = true := by
      intro a ha
      obtain ⟨x, hx, rfl⟩ := List.mem_map.1 ha
      obtain ⟨i, hi⟩ := List.getElem?_of_mem hx
      rw [List.getElem?_take] at hi
      by_cases c : i < pos fs n
      · rw [if_pos c] at hi; exact pos_ahead i x c hi
      · rw [if_neg c] at hi; cases hi
    have hd : ∀ a ∈ (fs.drop (pos fs n)).map F.name, lt n a = true := by
      intro a ha
      obtain ⟨x, hx, rfl⟩ := List.mem_map.1 ha
      obtain ⟨i, hi⟩ := List.getElem?_of_mem hx
      rw [List.getElem?_drop] at hi
      refine lt_tri (pos_behind hR' _ x (by omega) hi) (fun e => ?_)
      have := (found_iff hR').2 ⟨List.mem_of_getElem? hi, e⟩
      rw [hf] at this; cases this
    refine ⟨?_, ⟨?_, ?_⟩, ?_⟩
    · exact List.Pairwise.sublist ((List.take_sublist _ _).map _) h3
    · intro a ha; rw [hn]; exact hd a ha
    · exact List.Pairwise.sublist ((List.drop_sublist _ _).map _) h3
    · intro a ha b hb
      rcases List.mem_cons.1 hb with rfl | hb
      · rw [hn]; exact ht a ha
      · exact lt_trans (ht a ha) (hd b hb)
theorem rem_sub (fs : List F) (i : Nat) : (fs.take i ++ fs.drop (i + 1)).Sublist fs := by
  conv => rhs; rw [← List.take_append_drop i fs]
  exact List.Sublist.append (List.Sublist.refl _) (by rw [show fs.drop (i + 1) = (fs.drop i).drop 1 by rw [List.drop_drop]]; exact List.drop_sublist _ _)
theorem right_rem {fs : List F} (hR : Right fs) (i : Nat) : Right (fs.take i ++ fs.drop (i + 1)) := by
  rw [right_iff] at hR ⊢
  obtain ⟨h1, h2, h3⟩ := hR
  exact ⟨Nat.le_trans (rem_sub fs i).length_le h1, fun x hx => h2 x ((rem_sub fs i).subset hx), List.Pairwise.sublist ((rem_sub fs i).map _) h3⟩

theorem mem_ins {fs : List F} {i : Nat} {g x : F} (hn : x ≠ g) : x ∈ fs.take i ++ g :: fs.drop i ↔ x ∈ fs := by
  conv => rhs; rw [← List.take_append_drop i fs]
  simp only [List.mem_append, List.mem_cons, hn, false_or]

/-- what a change that is not refused leaves is right -/
theorem right_eff {fs : List F} (hR : Right fs) {s : S} (hk : 1 ≤ s.kind ∧ s.kind ≤ 5) (h0 : ref fs s = 0) : Right (eff fs s) := by
  unfold eff
  unfold ref at h0
  by_cases k1 : s.kind = 1
  · rw [if_pos k1] at h0 ⊢
    by_cases c : okN s.name
    · rw [if_pos c] at h0
      cases hf : found fs s.name with
      | some f => rw [hf] at h0; simp at h0
      | none =>
        rw [hf] at h0
        simp only [Option.isSome_none, Bool.false_eq_true, if_false] at h0
        by_cases c64 : fs.length = 64
        · rw [if_pos c64] at h0; cases h0
        · exact right_ins hR rfl ⟨c, by simp [ByteArray.size], by simp, by simp [ByteArray.size]⟩ hf c64
    · rw [if_neg c] at h0; cases h0
  · rw [if_neg k1] at h0 ⊢
    cases hf : found fs s.name with
    | none => rw [hf] at h0; cases h0
    | some f =>
      rw [hf] at h0
      have hp := (found_some hf).1
      have hok := hR.ok f (found_mem hf)
      obtain ⟨o1, o2, o3, o4⟩ := hok
      simp only at h0 ⊢
      by_cases k2 : s.kind = 2
      · rw [if_pos k2] at h0 ⊢
        by_cases c : 262144 - f.data.size < s.data.size
        · rw [if_pos c] at h0; cases h0
        · refine right_set hR hp rfl ⟨o1, ?_, o3, ?_⟩
          · simp only [ByteArray.size_append]; omega
          · simp only [ByteArray.size_append]; omega
      · rw [if_neg k2] at h0 ⊢
        by_cases k3 : s.kind = 3
        · rw [if_pos k3]
          exact right_set hR hp rfl ⟨o1, o2, by simp only; omega, by simp only; omega⟩
        · rw [if_neg k3]
          by_cases k4 : s.kind = 4
          · rw [if_pos k4] at h0 ⊢
            by_cases c : s.size < 0 ∨ (f.data.size : Int) < s.size
            · rw [if_pos c] at h0; cases h0
            · refine right_set hR hp rfl ⟨o1, ?_, by simp only; omega, ?_⟩
              · simp only [ByteArray.size_extract]; omega
              · simp only [ByteArray.size_extract]; omega
          · rw [if_neg k4]
            exact right_rem hR _

theorem right_empty : Right [] := ⟨by simp, fun i h => by simp at h⟩
theorem right_half {fs : List F} (hR : Right fs) {s : S} (hk : 1 ≤ s.kind ∧ s.kind ≤ 5) (h0 : ref fs s = 0) : Right (half fs s) := by
  unfold half
  by_cases h : s.kind = 2
  · rw [if_pos h]; exact right_eff hR hk h0
  · rw [if_neg h]; exact hR
/-- a number of changes that are still to come -/
def Num (n : Int) : Prop := -9223372036854775808 ≤ n ∧ n ≤ 9223372036854775807
theorem num_dec {n : Int} (h : Num n) : Num (dec n) := by
  unfold Num dec at *
  by_cases c : 0 < n
  · rw [if_pos c]; omega
  · rw [if_neg c]; exact h
/-- whatever a step does, the disk that is answered is right -/
theorem doo_all (d : D) (s : S) (hu : Num d.fuse) (hf : Num d.fault) : Right (doo d s).1.files ∧ Num (doo d s).1.fuse ∧ Num (doo d s).1.fault := by
  have z1 : Num (-1) := ⟨by omega, by omega⟩
  have z0 : Num 0 := ⟨by omega, by omega⟩
  unfold doo
  by_cases hR : Right d.files
  · rw [if_pos hR]
    by_cases hk : 1 ≤ s.kind ∧ s.kind ≤ 5
    · rw [if_pos hk]
      unfold run
      by_cases c1 : d.down = true
      · rw [if_pos c1]; exact ⟨hR, hu, hf⟩
      · rw [if_neg c1]
        by_cases c2 : ref d.files s ≠ 0
        · rw [if_pos c2]; exact ⟨hR, hu, hf⟩
        · rw [if_neg c2]
          have h0 : ref d.files s = 0 := by simpa using c2
          by_cases c3 : d.fault = 0
          · rw [if_pos c3]; exact ⟨hR, hu, z1⟩
          · rw [if_neg c3]
            by_cases c4 : d.fuse = 0
            · rw [if_pos c4]; exact ⟨right_half hR hk h0, z0, num_dec hf⟩
            · rw [if_neg c4]; exact ⟨right_eff hR hk h0, num_dec hu, num_dec hf⟩
    · rw [if_neg hk]; exact ⟨hR, hu, hf⟩
  · rw [if_neg hR]; exact ⟨right_empty, z0, z0⟩
end Go.Proofs.YtkhmdofeonlnpaaGreatDoor

/- PLAIN MATHEMATICS of crashes. -/
namespace Go.Proofs.YtkhmdofeonlnpaaGreatDoor
open Go.RowKit
set_option linter.unusedVariables false

theorem crash1_ok {f : F} (h : okF f) (kp : Option Int) : okF (crash1 kp f) ∧ (crash1 kp f).syn = ((crash1 kp f).data.size : Int) := by
  obtain ⟨b1, b2⟩ := keptS_bd h kp
  obtain ⟨o1, o2, o3, o4⟩ := h
  unfold crash1
  simp only [okF, ByteArray.size_extract]
  refine ⟨⟨o1, ?_, ?_, ?_⟩, ?_⟩ <;> omega
theorem crashL_names (ks : List Int) (fs : List F) : (crashL ks fs).map F.name = fs.map F.name := by
  apply List.ext_getElem?
  intro i
  rw [List.getElem?_map, List.getElem?_map]
  cases hf : fs[i]? with
  | some f => rw [crashL_at ks fs i f hf]; rfl
  | none =>
    have : (crashL ks fs)[i]? = none := by
      rw [List.getElem?_eq_none_iff] at hf ⊢
      rw [crashL_len]; exact hf
    rw [this]
theorem crashL_mem {ks : List Int} {fs : List F} {g : F} (h : g ∈ crashL ks fs) : ∃ f kp, f ∈ fs ∧ g = crash1 kp f := by
  obtain ⟨i, hi⟩ := List.getElem?_of_mem h
  have hl := (List.getElem?_eq_some_iff.1 hi).1
  rw [crashL_len] at hl
  have := crashL_at ks fs i _ (List.getElem?_eq_getElem hl)
  rw [hi] at this
  injection this with this
  exact ⟨_, _, List.getElem_mem hl, this⟩
theorem right_crash {fs : List F} (hR : Right fs) (ks : List Int) : Right (crashL ks fs) := by
  rw [right_iff] at hR ⊢
  obtain ⟨h1, h2, h3⟩ := hR
  refine ⟨by rw [crashL_len]; exact h1, fun g hg => ?_, by rw [crashL_names]; exact h3⟩
  obtain ⟨f, kp, hf, rfl⟩ := crashL_mem hg
  exact (crash1_ok (h2 f hf) kp).1
end Go.Proofs.YtkhmdofeonlnpaaGreatDoor

/- THE WALKS OVER whole, lives. -/
namespace Go.Proofs.YtkhmdofeonlnpaaGreatDoor
open Go.RowKit
set_option linter.unusedVariables false
set_option linter.unusedSimpArgs false
attribute [local go_sem] run_store_func run_store_nilf

theorem doo_right {d : D} {s : S} (h : Right d.files) (hk : 1 ≤ s.kind ∧ s.kind ≤ 5) : doo d s = run d s := by unfold doo; rw [if_pos h, if_pos hk]
theorem right_nil : Right [] := ⟨by simp, fun i h => by simp at h⟩
theorem right_one {f : F} (h : okF f) : Right [f] := ⟨by simp, fun i hi => by
  have : i = 0 := by simpa using hi
  subst this
  intro g hg
  simp at hg
  subst hg
  exact ⟨h, fun p h0 => absurd h0 (by omega)⟩⟩
theorem pos_one (f : F) : pos [f] f.name = 0 := by
  refine pos_unique 0 (by simp) (fun i g hi => by omega) (fun g hg => ?_)
  simp at hg; subst hg; exact lt_irrefl _
theorem found_one (f : F) : found [f] f.name = some f := by unfold found; rw [pos_one]; simp
theorem doo_create {n : ByteArray} (h : okN n) {z : Int} {d : ByteArray} : doo ⟨[], false, -1, -1⟩ ⟨1, n, d, z⟩ = (⟨[⟨n, ⟨#[]⟩, 0⟩], false, -1, -1⟩, 0) := by
  rw [doo_right right_nil ⟨by simp, by simp⟩, run_done _ (by decide) (by decide)]
  · rw [eff1]; rfl
  · rw [ref1, if_pos h]; rfl
theorem doo_append {f : F} (h : okF f) {d : ByteArray} {z : Int} (hd : f.data.size + d.size ≤ 262144) : doo ⟨[f], false, -1, -1⟩ ⟨2, f.name, d, z⟩ = (⟨[⟨f.name, f.data ++ d, f.syn⟩], false, -1, -1⟩, 0) := by
  rw [doo_right (right_one h) ⟨by simp, by simp⟩, run_done _ (by decide) (by decide)]
  · rw [eff2 (found_one f), pos_one]; rfl
  · rw [ref2 (found_one f), if_neg (by omega)]
theorem doo_sync {f : F} (h : okF f) {d : ByteArray} {z : Int} : doo ⟨[f], false, -1, -1⟩ ⟨3, f.name, d, z⟩ = (⟨[⟨f.name, f.data, f.data.size⟩], false, -1, -1⟩, 0) := by
  rw [doo_right (right_one h) ⟨by simp, by simp⟩, run_done _ (by decide) (by decide)]
  · rw [eff3 (found_one f), pos_one]; rfl
  · rw [ref3 (found_one f)]
theorem crv_right {d : D} {ks : List Int} (h : Right d.files) : crv d ks = (⟨crashL ks d.files, false, -1, -1⟩, 0) := by unfold crv; rw [if_pos h]
theorem rdv_one {f : F} (h : okF f) {u v : Int} : rdv ⟨[f], false, u, v⟩ f.name = (f.data, 0) := by
  unfold rdv
  rw [if_pos (upv_up (right_one h) (by simp))]
  simp only [found_one]

abbrev bA : ByteArray := ⟨#[97]⟩
abbrev bXY : ByteArray := ⟨#[120, 121]⟩
abbrev bZ : ByteArray := ⟨#[122]⟩
abbrev bXYZ : ByteArray := ⟨#[120, 121, 122]⟩
theorem okA : okN bA := by decide
theorem ok_a {d : ByteArray} {s : Int} (h : d.size ≤ 262144) (h0 : 0 ≤ s) (h1 : s ≤ d.size) : okF ⟨bA, d, s⟩ := ⟨okA, h, h0, h1⟩

theorem DIn.one {w : World} {ad : Option Addr} {n cap : Nat} {fs : List F} (h : Inp w w.heap.size ad n cap fs) (hf : ∀ f ∈ fs, Fit f) : DIn w ad n cap (-1) (-1) fs := ⟨h, hf, by omega, by omega, by omega, by omega⟩
theorem fit_one {f : F} (h : okF f) : ∀ g ∈ [f], Fit g := fun g hg => by simp at hg; subst hg; exact okF_fit h
/-- block q holds the disk of a local variable; the list does not lie there -/
structure Var (w : World) (q : Nat) (ad : Option Addr) (n cap : Nat) (down : Bool) (fuse fault : Int) (fs : List F) : Prop where
  d : Dk w q 24 (.slice ad n cap) down fuse fault
  i : Inp w w.heap.size ad n cap fs
section
variable {w w' : World} {q : Nat} {ad : Option Addr} {n cap : Nat} {down : Bool} {fuse fault : Int} {fs : List F}
theorem Var.under (h : Var w q ad n cap down fuse fault fs) (hb : Below w.heap.size w w') : Var w' q ad n cap down fuse fault fs := ⟨h.d.keep hb h.d.lt, h.i.under hb⟩
/-- a new variable -/
theorem Var.new (h : Inp w w.heap.size ad n cap fs) : Var (w.alloc (.cells (dcells (.slice ad n cap) down fuse fault) 24)) w.heap.size ad n cap down fuse fault fs := ⟨blk_new w _, h.under ((Below.refl _ w).alloc (Nat.le_refl _) _)⟩
/-- the variable is set anew -/
theorem Var.put {ad' : Option Addr} {n' cap' : Nat} {v0 : Value} {d0 : Bool} {u0 t0 : Int} (hd : Dk w q 24 v0 d0 u0 t0) (h : Inp w w.heap.size ad' n' cap' fs) (hf : (Value.slice ad' n' cap').ownBlock ≠ some q) :
    Var ((((w.setCell ⟨q, 0, none⟩ (.slice ad' n' cap')).setCell ⟨q, 1, none⟩ (.bool down)).setCell ⟨q, 2, none⟩ (.int .i64 fuse)).setCell ⟨q, 3, none⟩ (.int .i64 fault)) q ad' n' cap' down fuse fault fs :=
  ⟨(((hd.set0 _).set1 _).set2 _).set3 _, (Inp.set (Inp.set (Inp.set (Inp.set h hf) hf) hf) hf).mono (by simp [World.setCell])⟩
end

end Go.Proofs.YtkhmdofeonlnpaaGreatDoor

/- PLAIN MATHEMATICS of what is read behind a change. -/
namespace Go.Proofs.YtkhmdofeonlnpaaGreatDoor
open Go.RowKit
set_option linter.unusedVariables false

section
variable {fs : List F} {b d : ByteArray} {z : Int} {f : F}
theorem rdv_found {u v : Int} (hR : Right fs) (hf : found fs b = some f) : rdv ⟨fs, false, u, v⟩ b = (f.data, 0) := by
  unfold rdv
  rw [if_pos (upv_up (d := ⟨fs, false, u, v⟩) hR (by simp))]
  simp only [hf]
theorem rdv_none {u v : Int} (hR : Right fs) (hf : found fs b = none) : rdv ⟨fs, false, u, v⟩ b = (⟨#[]⟩, 7) := by
  unfold rdv
  rw [if_pos (upv_up (d := ⟨fs, false, u, v⟩) hR (by simp))]
  simp only [hf]
end
end Go.Proofs.YtkhmdofeonlnpaaGreatDoor

/- SEGMENT: THE WALKS OVER files, removal. -/
namespace Go.Proofs.YtkhmdofeonlnpaaGreatDoor
open Go.RowKit
set_option maxRecDepth 100000
set_option linter.unusedVariables false
set_option linter.unusedSimpArgs false
theorem Tryz.info178 : (Tryz.prog.info? 178).map (fun i => (i.zero, i.size, i.bytes)) = some (some (.agg #[.string ⟨#[]⟩, .string ⟨#[]⟩, .int .i64 0, .int .u64 0]), 4, 48) := by kernel_rfl
/-- a file of the log -/
structure SF where
  f : F
  n : Nat
  hn : n ≤ 4611686018427387904
abbrev SF.cells (s : SF) : Array Value := #[.string s.f.name, .string s.f.data, .int .i64 s.f.syn, .int .u64 (s.n : Int)]
/-- the files of a log -/
noncomputable def sf1 (f : F) : List SF := match h : numB f.name with
  | some n => [⟨f, n, (numB_some h).1⟩]
  | none => []
noncomputable def filesM (fs : List F) : List SF := fs.flatMap sf1
theorem sf1_none {f : F} (h : numB f.name = none) : sf1 f = [] := by unfold sf1; split <;> simp_all
theorem sf1_some {f : F} {n : Nat} (h : numB f.name = some n) : sf1 f = [⟨f, n, (numB_some h).1⟩] := by
  unfold sf1
  split
  · rename_i m hm
    obtain rfl : m = n := by rw [hm] at h; injection h
    rfl
  · simp_all
theorem filesM_len (fs : List F) : (filesM fs).length ≤ fs.length := by
  induction fs with
  | nil => simp [filesM]
  | cons f fs ih =>
    rw [filesM, List.flatMap_cons, List.length_append]
    rw [filesM] at ih
    have : (sf1 f).length ≤ 1 := by unfold sf1; split <;> simp
    simp only [List.length_cons]
    omega
def sfc (l : List SF) : List Value := l.flatMap fun s => s.cells.toList
theorem sfc_len (l : List SF) : (sfc l).length = l.length * 4 := by
  induction l with
  | nil => rfl
  | cons r rs ih => rw [sfc, List.flatMap_cons, List.length_append]; rw [sfc] at ih; rw [ih]; simp; omega
def WRow (w : World) (base : Nat) (v : Value) (l : List SF) : Prop := w.ownsRow base 178 4 v l.length (sfc l)
theorem WRow.under {w w' : World} {base : Nat} {v : Value} {l : List SF} (h : WRow w base v l) (hb : Below w.heap.size w w') : WRow w' base v l :=
  World.ownsRow.kept (row := none) h ⟨hb.os, hb.tape, hb.output, hb.size, fun k hk _ => hb.block k hk⟩ (by cases v.ownBlock <;> simp)
theorem wp_app {P : Program} {w w1 : World} {ops : Array Oper} {rest : List Oper} {o : Oper} {a : Act} {Q : Exit → Act → World → Prop} (hgd : o.guard = none) (s x : Operand) {T U : TypeId} {v1 : Value} (S V : Value) (hs : a.eval s = S) (hx : a.eval x = V)
    (ho : o.op = .call { callee := .builtin .append, args := #[s, x], argTypes := #[T, U] }) (hr : (Builtin.append_ #[T, U] o.type #[S, V]).run P w = .ok v1 w1) (h : wpList P ops Q rest (a.put o.dst v1) w1) : wpList P ops Q (o :: rest) a w := by
  refine wpList_plain hgd fun K hK => ?_
  unfold Oper.wp execOp
  simp only [ho, resolve, invoke, builtin, Sem.run_bind, Sem.run_pure, Result.andThen_ok, List.map_toArray, List.map_cons, List.map_nil, hs, hx, hr]
  exact hK _ _ h
theorem app_file (X : World) (base : Nat) (v : Value) (l : List SF) (s : SF) (hb : base ≤ X.heap.size) (hrow : WRow X base v l) (hn : l.length ≤ 1000000) :
    ∃ v' w', (Builtin.append_ #[175, 175] 175 #[v, .slice (some ⟨X.heap.size, 0, none⟩) 1 1]).run Tryz.prog (X.alloc (.cells s.cells 178)) = .ok v' w' ∧ WRow w' base v' (l ++ [s]) ∧ (X.alloc (.cells s.cells 178)).grownBy w' v.ownBlock ∧ (v'.ownBlock = v.ownBlock ∨ ∃ b, v'.ownBlock = some b ∧ X.heap.size ≤ b) := by
  obtain ⟨i0, hi, hz0, hz1, hz2⟩ := info_parts Tryz.info178
  have hblk := blk_new X (.cells s.cells 178)
  have hcell : ∀ j u, s.cells.toList[j]? = some u → (X.alloc (.cells s.cells 178)).cell? ((⟨X.heap.size, 0, none⟩ : Addr).add j) = some u := fun j u hj => by
    have h0 := cell_of_row _ X.heap.size j _ 178 (0, 0) hblk
    rw [Addr.add_lit, Nat.zero_add, h0]
    simpa using hj
  obtain ⟨v', w', hr, ho, hg, _, hob⟩ := run_append_own_at (P := Tryz.prog) (X.alloc (.cells s.cells 178)) base 175 175 178 i0 _ 4 48 Tryz.underlying175 hi hz0 hz1 hz2 rfl (by decide) v l.length _ (World.ownsRow.alloc hrow _) ⟨X.heap.size, 0, none⟩ 1 1 s.cells.toList (by simp) hcell (fun u hu => by
    simp only [List.mem_cons, List.not_mem_nil, or_false] at hu
    rcases hu with rfl | rfl | rfl | rfl <;> rfl) (by simp [maxLen]; omega) (by omega) (by simp; omega)
  refine ⟨v', w', hr, ?_, hg, ?_⟩
  · unfold WRow
    rw [show sfc (l ++ [s]) = sfc l ++ s.cells.toList by simp [sfc], List.length_append]
    exact ho
  · rcases hob with e | e
    · exact .inl e
    · exact .inr ⟨_, e, by simp⟩

set_option maxHeartbeats 4000000 in
theorem files_any (w : World) (ad : Option Addr) (n cap : Nat) (down : Bool) (fuse fault : Int) (fs : List F) (hi : Inp w w.heap.size ad n cap fs) (hn : n ≤ 1000) (hnm : ∀ f ∈ fs, f.name.size ≤ 1000000) (hT : Tabs w) :
    Calls Tryz.prog 113 #[.agg (dcells (.slice ad n cap) down fuse fault)] w fun e w' => ∃ v, e = .returned v ∧ WRow w' w.heap.size v (filesM fs) ∧ Below w.heap.size w w' := by
  have hb0 := (Below.refl w.heap.size w).alloc (Nat.le_refl _) (.cells (dcells (.slice ad n cap) down fuse fault) 24)
  have hx : Dk (w.alloc (.cells (dcells (.slice ad n cap) down fuse fault) 24)) w.heap.size 24 (.slice ad n cap) down fuse fault := blk_new w _
  have HI := Lib.hid hi
  have HT := Lib.hid hT
  have Hb0 := Lib.hid hb0
  have Hnm := Lib.hid hnm
  have Hn := Lib.hid hi.1
  obtain ⟨⟨d0, d1, d2, d3⟩, _⟩ := hx.facts
  clear hx hi hb0 hT hnm
  go_enter Tryz.func113, Tryz.ntmps113
  go_wp2
  clear d0 d1 d2 d3
  go_loopw [3, 11] (fun v i wr => ∃ (k : Nat), i = .int .i64 (k : Int) ∧ k ≤ n ∧ WRow wr w.heap.size v (filesM (fs.take k)) ∧ Below w.heap.size w wr) (fun _ i _ => n - (intOf i).toNat)
  case atStart => exact ⟨0, rfl, by omega, World.ownsRow_nil _ _ _ _, Hb0.out⟩
  case round =>
    obtain ⟨k, rfl, hk, hrow, hbel⟩ := hrel
    have hi := HI.out.keep hbel
    have hTr := HT.out.under hbel
    have Hrow := Lib.hid hrow
    have HTr := Lib.hid hTr
    have Hbel := Lib.hid hbel
    by_cases hlt : k < n
    · obtain ⟨f, hf⟩ : ∃ f, fs[k]? = some f := ⟨fs[k]'(by have := Hn.out; omega), by simp⟩
      have hne : fs ≠ [] := by rintro rfl; simp at hf
      obtain ⟨gb, off, rfl, hg, hc⟩ := hi.2.2.2 hne
      obtain ⟨q0, q1, q2⟩ := hc k f hf
      have hg2 : gb < wr.heap.size := Nat.lt_of_lt_of_le hg Hbel.out.size
      have hfn := Hnm.out f (List.mem_of_getElem? hf)
      have hstep : filesM (fs.take (k + 1)) = filesM (fs.take k) ++ sf1 f := by
        rw [List.take_add_one, hf]; simp [filesM]
      have Hstep := Lib.hid hstep
      have hll : (filesM (fs.take k)).length ≤ 1000 := by have := filesM_len (fs.take k); rw [List.length_take] at this; omega
      have hal := (Below.refl wr.heap.size wr).alloc (Nat.le_refl _) (.cells (fcells f.name f.data f.syn) 107)
      obtain ⟨Wa, hWa⟩ : ∃ W, W = wr.alloc (.cells (fcells f.name f.data f.syn) 107) := ⟨_, rfl⟩
      rw [← hWa] at hal
      have hbx : Wa.heap[wr.heap.size]? = some (.cells (fcells f.name f.data f.syn) 107 (0, 0)) := by rw [hWa]; exact blk_new wr _
      have Hal := Lib.hid hal
      have Hbx := Lib.hid hbx
      have HTr' := Lib.hid hTr
      clear hc hrow hTr hbel hi hf hne hstep hal hbx
      go_upto_region 5 with (fail)
      rw [← hWa]
      clear hWa
      obtain ⟨b0, b1, b2⟩ := box3' Hbx.out
      go_wp2_with fail
      refine (number_any Wa f.name hfn (HTr.out.under Hal.out)).mono ?_
      rintro e w2 ⟨rfl, hb2⟩
      have Hb2 := Lib.hid (Hal.out.trans (hb2.mono Hal.out.size))
      replace Hbx := Lib.hid ((hb2.block _ (Array.getElem?_eq_some_iff.1 Hbx.out).1).trans Hbx.out)
      clear hb2 b0 b1 b2
      obtain ⟨b0, b1, b2⟩ := box3' Hbx.out
      cases hm : numB f.name with
      | none =>
        have hv : numV f.name = .tuple #[.int .u64 0, .bool false] := by unfold numV; rw [hm]
        rw [hv]
        have hfin : filesM (fs.take (k + 1)) = filesM (fs.take k) := by rw [Hstep.out, sf1_none hm, List.append_nil]
        have Hfin := Lib.hid hfin
        clear hfin hm hv
        go_wp2
        go_roundw
        case rel => exact ⟨k + 1, by go_num, by omega, by rw [Hfin.out]; exact WRow.under Hrow.out Hb2.out, Hbel.out.trans (Hb2.out.mono Hbel.out.size)⟩
        case measure => simp [intOf]; omega
      | some m =>
        have hv : numV f.name = .tuple #[.int .u64 (m : Int), .bool true] := by unfold numV; rw [hm]
        rw [hv]
        have hm62 := (numB_some hm).1
        have hfin : filesM (fs.take (k + 1)) = filesM (fs.take k) ++ [⟨f, m, hm62⟩] := by rw [Hstep.out, sf1_some hm]
        have hlow : w.heap.size ≤ w2.heap.size := Nat.le_trans Hbel.out.size Hb2.out.size
        obtain ⟨v3, w3, hr3, hrow3, hg3, ho3⟩ := app_file w2 w.heap.size u3 (filesM (fs.take k)) ⟨f, m, hm62⟩ hlow (Hrow.out.under Hb2.out) (by omega)
        rw [← hfin] at hrow3
        have hb3 : Below w.heap.size w w3 := ((Hbel.out.trans (Hb2.out.mono Hbel.out.size)).alloc hlow _).grown hg3 (by simp; omega) (fun k hk => (World.ownsRow.lt Hrow.out k hk).1)
        have Hrow3 := Lib.hid hrow3
        have Hb3 := Lib.hid hb3
        clear hfin hm hv hrow3 hg3 ho3 hb3
        go_wp2_with (at_builtin; refine wp_app rfl (.tmp 22) (.tmp 26) u3 (.slice (some ⟨w2.heap.size, 0, none⟩) 1 1) (by rfl) (by rfl) rfl hr3 ?_)
        clear hr3
        go_wp2
        go_roundw
        case rel => exact ⟨k + 1, by go_num, by omega, Hrow3.out, Hb3.out⟩
        case measure => simp [intOf]; omega
    · have hkn : k = n := by omega
      have hfin : filesM (fs.take k) = filesM fs := by rw [List.take_of_length_le (by have := Hn.out; omega)]
      rw [hfin] at Hrow
      clear hrow hTr hbel hi hkn hfin
      go_wp2
      go_ret
      exact ⟨_, rfl, Hrow.out, Hbel.out⟩
end Go.Proofs.YtkhmdofeonlnpaaGreatDoor

/- SEGMENT: THE ITERATOR THAT GOES BACKWARD OVER FILES; removal. -/
namespace Go.Proofs.YtkhmdofeonlnpaaGreatDoor
open Go.RowKit Go.Shelf
attribute [local go_sem] Oper.semAt_some
set_option maxRecDepth 100000
set_option linter.unusedVariables false
set_option linter.unusedSimpArgs false
/-- files at a place -/
def WAt (w : World) (g off : Nat) (l : List SF) : Prop := ∀ i s, l[i]? = some s → w.cell? ⟨g, off + i * 4, none⟩ = some (.string s.f.name) ∧ w.cell? ⟨g, off + i * 4 + 1, none⟩ = some (.string s.f.data) ∧ w.cell? ⟨g, off + i * 4 + 2, none⟩ = some (.int .i64 s.f.syn) ∧ w.cell? ⟨g, off + i * 4 + 3, none⟩ = some (.int .u64 (s.n : Int))
/-- what lies below n₀ but block C is kept -/
structure Kc (n₀ C : Nat) (W W' : World) : Prop where
  size : W.heap.size ≤ W'.heap.size
  low : ∀ k, k < n₀ → k ≠ C → W'.heap[k]? = W.heap[k]?
theorem Kc.refl {n₀ C : Nat} (W : World) : Kc n₀ C W W := ⟨Nat.le_refl _, fun _ _ _ => rfl⟩
theorem Kc.trans {n₀ C : Nat} {A B D : World} (h : Kc n₀ C A B) (k : Kc n₀ C B D) : Kc n₀ C A D := ⟨Nat.le_trans h.size k.size, fun i hi hc => (k.low i hi hc).trans (h.low i hi hc)⟩
theorem Kc.put {n₀ C : Nat} {w : World} (hn : n₀ ≤ w.heap.size) (W : World) (l : Nat) (o o' : Obj) (hl : w.heap.size ≤ l) (_ : W.heap[l]? = some o) (_ : o.isCells = false) (_ : o.isWalk = false) : Kc n₀ C W (W.putObj l o') :=
  ⟨by simp, fun k hk _ => World.putObj_heap_other (by omega)⟩
theorem WAt.kc {w w' : World} {n₀ C g off : Nat} {l : List SF} (h : WAt w g off l) (hg : g < n₀) (hC : g ≠ C) (hk : Kc n₀ C w w') : WAt w' g off l := fun i s hi => by
  obtain ⟨h0, h1, h2, h3⟩ := h i s hi
  exact ⟨(World.cell?_of_block (hk.low g hg hC)).trans h0, (World.cell?_of_block (hk.low g hg hC)).trans h1, (World.cell?_of_block (hk.low g hg hC)).trans h2, (World.cell?_of_block (hk.low g hg hC)).trans h3⟩
theorem WAt.below {w w' : World} {B g off : Nat} {l : List SF} (h : WAt w g off l) (hg : g < B) (hb : Below B w w') : WAt w' g off l := fun i s hi => by
  obtain ⟨h0, h1, h2, h3⟩ := h i s hi
  exact ⟨(hb.cell (p := ⟨g, _, none⟩) hg).trans h0, (hb.cell (p := ⟨g, _, none⟩) hg).trans h1, (hb.cell (p := ⟨g, _, none⟩) hg).trans h2, (hb.cell (p := ⟨g, _, none⟩) hg).trans h3⟩

theorem backward_any (w : World) (ad : Option Addr) (n cap : Nat) : Calls Tryz.prog 115 #[.slice ad n cap] w fun e w' => e = .returned (.func (.func 146) #[] #[.pointer (some ⟨w.heap.size, 0, none⟩)]) ∧ w.alloc (.cells #[.slice ad n cap] 175) = w' := by
  go_enter Tryz.func115, Tryz.ntmps115
  go_wp2
  go_ret
  exact ⟨rfl, rfl⟩
/-- the step that takes a file away -/
abbrev rmc (s : SF) : Array Value := #[.int .u8 5, .string s.f.name, .string ⟨#[]⟩, .int .i64 0]
theorem removal_any (w : World) (s : SF) : Calls Tryz.prog 116 #[.agg s.cells] w fun e w' => e = .returned (.agg (rmc s)) ∧ Below w.heap.size w w' := by
  go_enter Tryz.func116, Tryz.ntmps116
  go_wp2
  have hb := blk_new (w.alloc (.cells s.cells 178)) (.cells (rmc s) 182)
  rw [World.size_alloc] at hb
  obtain ⟨r0, r1, r2, r3⟩ := box4' hb
  exact bodyPost_ret (v := .agg (rmc s)) (by simp [results, Tryz.results116, go_sem, r0, r1, r2, r3]) rfl ⟨rfl, ((Below.refl _ w).alloc (Nat.le_refl _) _).alloc (by simp) _⟩

set_option maxHeartbeats 4000000 in
theorem back_it (l Bs n₀ C g off cap : Nat) (lf : List SF) (hB : Bs < n₀) (hBC : Bs ≠ C) (hg : lf ≠ [] → g < n₀ ∧ g ≠ C) (hlen : lf.length ≤ 1000000) (W : World)
    (ad : Option Addr) (had : lf ≠ [] → ad = some ⟨g, off, none⟩) (hbs : W.cell? ⟨Bs, 0, none⟩ = some (.slice ad lf.length cap)) (hat : lf ≠ [] → WAt W g off lf) (J Jx : List (Nat × SF) → World → Prop) (hJ : AbidesFrom W.heap.size J)
    (N : Nat) (hN : lf.length ≤ N)
    (hY : ∀ pre x W1, J pre W1 → pre.length < N → YieldAt Fence.wide 3 Tryz.prog l #[.int .i64 (x.1 : Int), .agg x.2.cells] W1 fun e W' => (e = .returned (.bool true) ∧ J (pre ++ [x]) W' ∧ Kc n₀ C W1 W') ∨ (e = .returned (.bool false) ∧ Jx (pre ++ [x]) W'))
    (h0 : J [] W) :
    CallsIn Fence.wide 4 Tryz.prog 146 #[.func (.yield l) #[] #[], .pointer (some ⟨Bs, 0, none⟩)] W fun e W' => (∃ v, e = .returned v) ∧
      ((∃ xs, xs.map Prod.snd = lf.reverse ∧ J xs W') ∨ (∃ pre, True ∧ Jx pre W')) := by
  refine callsIn_of_wp Tryz.func146 rfl trivial ?_ rfl
  simp only [Tryz.ntmps146, List.size_toArray, List.length_cons, List.length_nil, Nat.reduceAdd, Nat.reduceSub, Array.replicate_succ, Array.replicate_zero, List.push_toArray, List.append_toArray, List.nil_append, List.cons_append]
  gi_wp2
  gi_loopw [3] (fun i wr => ∃ (j : Nat) (pre : List (Nat × SF)), i = .int .i64 ((j : Int) - 1) ∧ j ≤ lf.length ∧ pre.map Prod.snd = (lf.drop j).reverse ∧ J pre wr ∧ Kc n₀ C W wr) (fun i _ => (intOf i + 1).toNat)
  case atStart => exact ⟨lf.length, [], rfl, Nat.le_refl _, by simp, h0, Kc.refl W⟩
  case round =>
    obtain ⟨j, pre, rfl, hj, hpre, hJs, hkc⟩ := hrel
    have hbr : wr.cell? ⟨Bs, 0, none⟩ = some (.slice ad lf.length cap) := (World.cell?_of_block (hkc.low Bs hB hBC)).trans hbs
    have hpl : pre.length = lf.length - j := by have := congrArg List.length hpre; simpa using this
    by_cases hj0 : j = 0
    · subst hj0
      have Hpre := Lib.hid hpre
      have Hkc := Lib.hid hkc
      clear hpre hkc hpl
      gi_wp2
      go_end0
      exact ⟨⟨_, rfl⟩, .inl ⟨pre, by simpa using Hpre.out, hJs⟩⟩
    · obtain ⟨k, rfl⟩ : ∃ k, j = k + 1 := ⟨j - 1, by omega⟩
      have hne : lf ≠ [] := by rintro rfl; simp at hj
      obtain ⟨s, hs⟩ : ∃ s, lf[k]? = some s := ⟨lf[k]'(by omega), by simp⟩
      have hadr := had hne
      subst hadr
      obtain ⟨q0, q1, q2, q3⟩ := (hat hne).kc (hg hne).1 (hg hne).2 hkc k s hs
      obtain ⟨fn, tmps, assign, body, hy, hR⟩ := hY pre (k, s) wr hJs (by omega)
      dsimp only at hy
      have hkI : ((k + 1 : Nat) : Int) - 1 = (k : Int) := by omega
      have hk1 : (k : Int) < (lf.length : Int) := by omega
      have hk0 : (0 : Int) ≤ (k : Int) := by omega
      have hnext : (pre ++ [(k, s)]).map Prod.snd = (lf.drop k).reverse := by
        have hkl : k < lf.length := by omega
        rw [List.map_append, hpre, List.drop_eq_getElem_cons hkl]
        have : lf[k] = s := by
          have := List.getElem?_eq_some_iff.1 hs
          exact this.2
        simp [this]
      have Hnext := Lib.hid hnext
      have Hkc := Lib.hid hkc
      rw [hkI]
      clear hkI hnext hpre hkc hpl hj0 hs
      gi_wp2
      refine hR.mono ?_
      clear hR hy q0 q1 q2 q3
      rintro e W3 (⟨rfl, hJ3, hk3⟩ | ⟨rfl, hJx3⟩)
      · have Hk3 := Lib.hid hk3
        clear hk3
        gi_wp2
        go_roundw
        case rel => exact ⟨k, pre ++ [(k, s)], by go_num, by omega, Hnext.out, hJ3, Hkc.out.trans Hk3.out⟩
        case measure => simp [intOf]
      · gi_wp2
        refine bodyPost_ret (results_none rfl _ _ _) rfl ?_
        exact ⟨⟨_, rfl⟩, .inr ⟨_, trivial, hJx3⟩⟩
theorem back_stop (Bs n₀ C g off cap : Nat) (lf : List SF) (hB : Bs < n₀) (hBC : Bs ≠ C) (hg : lf ≠ [] → g < n₀ ∧ g ≠ C) (hlen : lf.length ≤ 1000000) (w0 : World) (hn0 : n₀ ≤ w0.heap.size)
    (ad : Option Addr) (had : lf ≠ [] → ad = some ⟨g, off, none⟩) (hbs : w0.cell? ⟨Bs, 0, none⟩ = some (.slice ad lf.length cap)) (hat : lf ≠ [] → WAt w0 g off lf) :
    SeqStopsK Fence.wide 4 Tryz.prog 146 #[.pointer (some ⟨Bs, 0, none⟩)] (fun x : Nat × SF => #[.int .i64 (x.1 : Int), .agg x.2.cells]) (Kc n₀ C) (fun xs => xs.map Prod.snd = lf.reverse) (fun _ => True) lf.length w0 := by
  intro l J Jx W hW hJ hJx hY h0
  exact back_it l Bs n₀ C g off cap lf hB hBC hg hlen W ad had ((hW.cell (p := ⟨Bs, 0, none⟩) (by show Bs < _; omega)).trans hbs) (fun hne => (hat hne).below (by have := (hg hne).1; omega) hW) J Jx hJ lf.length (Nat.le_refl _) hY h0
end Go.Proofs.YtkhmdofeonlnpaaGreatDoor

/- SEGMENT: LOGS IN MEMORY; THE WALKS OVER isSize, Check, begin. -/
namespace Go.Proofs.YtkhmdofeonlnpaaGreatDoor
open Go.RowKit
set_option maxRecDepth 100000
set_option linter.unusedVariables false
set_option linter.unusedSimpArgs false
/-- a log -/
structure L where
  d : D
  size : Int
  fr : Int
  nx : Int
  broken : Bool
abbrev lcells (v : Value) (down : Bool) (fuse fault size fr nx : Int) (broken : Bool) : Array Value := #[v, .bool down, .int .i64 fuse, .int .i64 fault, .int .i64 size, .int .u64 fr, .int .u64 nx, .bool broken]
abbrev L.cells (l : L) (v : Value) : Array Value := lcells v l.d.down l.d.fuse l.d.fault l.size l.fr l.nx l.broken
theorem box8 {w : World} {g : Nat} {x0 x1 x2 x3 x4 x5 x6 x7 : Value} {t : TypeId} (h : w.heap[g]? = some (.cells #[x0, x1, x2, x3, x4, x5, x6, x7] t (0, 0))) :
    w.cell? ⟨g, 0, none⟩ = some x0 ∧ w.cell? ⟨g, 1, none⟩ = some x1 ∧ w.cell? ⟨g, 2, none⟩ = some x2 ∧ w.cell? ⟨g, 3, none⟩ = some x3 ∧ w.cell? ⟨g, 4, none⟩ = some x4 ∧ w.cell? ⟨g, 5, none⟩ = some x5 ∧ w.cell? ⟨g, 6, none⟩ = some x6 ∧ w.cell? ⟨g, 7, none⟩ = some x7 :=
  ⟨cell_of_row w g 0 _ t (0, 0) h, cell_of_row w g 1 _ t (0, 0) h, cell_of_row w g 2 _ t (0, 0) h, cell_of_row w g 3 _ t (0, 0) h, cell_of_row w g 4 _ t (0, 0) h, cell_of_row w g 5 _ t (0, 0) h, cell_of_row w g 6 _ t (0, 0) h, cell_of_row w g 7 _ t (0, 0) h⟩
/-- a log is right -/
def LRight (l : L) : Prop := Right l.d.files ∧ (1 ≤ l.size ∧ l.size ≤ 262144) ∧ l.fr ≤ l.nx ∧ l.nx ≤ 4611686018427387904
/-- a log that came in -/
structure LIn (w : World) (ad : Option Addr) (n cap : Nat) (l : L) : Prop where
  d : DIn w ad n cap l.d.fuse l.d.fault l.d.files
  s0 : -9223372036854775808 ≤ l.size
  s1 : l.size ≤ 9223372036854775807
  f0 : 0 ≤ l.fr
  f1 : l.fr ≤ 18446744073709551615
  n0 : 0 ≤ l.nx
  n1 : l.nx ≤ 18446744073709551615
theorem LIn.under {w w' : World} {ad : Option Addr} {n cap : Nat} {l : L} (h : LIn w ad n cap l) (hb : Below w.heap.size w w') : LIn w' ad n cap l := ⟨h.d.under hb, h.s0, h.s1, h.f0, h.f1, h.n0, h.n1⟩

theorem isSize_any (w : World) (n : Int) : Calls Tryz.prog 64 #[.int .i64 n] w fun e w' => e = .returned (.bool (decide (1 ≤ n) && decide (n ≤ 262144))) ∧ w = w' := by
  go_enter Tryz.func64, Tryz.ntmps64
  by_cases h1 : 1 ≤ n
  · by_cases h2 : n ≤ 262144
    · have e : (decide (1 ≤ n) && decide (n ≤ 262144)) = true := by simp [h1, h2]
      rw [e]
      clear e
      go_wp2
      go_ret
      exact ⟨rfl, rfl⟩
    · have e : (decide (1 ≤ n) && decide (n ≤ 262144)) = false := by simp [h2]
      rw [e]
      clear e
      go_wp2
      go_ret
      exact ⟨rfl, rfl⟩
  · have e : (decide (1 ≤ n) && decide (n ≤ 262144)) = false := by simp [h1]
    rw [e]
    clear e
    go_wp2
    go_ret
    exact ⟨rfl, rfl⟩

set_option maxHeartbeats 2000000 in
theorem lcheck_any (w : World) (ad : Option Addr) (n cap : Nat) (l : L) (h : LIn w ad n cap l) :
    Calls Tryz.prog 46 #[.agg (l.cells (.slice ad n cap))] w fun e w' => ∃ c, e = .returned (.int .i64 c) ∧ ((LRight l ∧ c = 0) ∨ (¬ LRight l ∧ c = 6)) ∧ Below w.heap.size w w' := by
  obtain ⟨⟨fs, down, fuse, fault⟩, size, fr, nx, broken⟩ := l
  have hb0 : Below w.heap.size w (w.alloc (.cells (lcells (.slice ad n cap) down fuse fault size fr nx broken) 27)) := (Below.refl _ w).alloc (Nat.le_refl _) _
  have hx := blk_new w (.cells (lcells (.slice ad n cap) down fuse fault size fr nx broken) 27)
  have HI := Lib.hid (h.d.under hb0)
  have Hx := Lib.hid hx
  have Hb0 := Lib.hid hb0
  obtain ⟨s0, s1, f0, f1, n0, n1⟩ : (-9223372036854775808 ≤ size ∧ size ≤ 9223372036854775807 ∧ 0 ≤ fr ∧ fr ≤ 18446744073709551615 ∧ 0 ≤ nx ∧ nx ≤ 18446744073709551615) := ⟨h.s0, h.s1, h.f0, h.f1, h.n0, h.n1⟩
  obtain ⟨d0, d1, d2, d3, d4, d5, d6, d7⟩ := box8 hx
  clear h hb0 hx
  go_enter Tryz.func46, Tryz.ntmps46
  go_wp2_with fail
  by_cases hR : Right fs
  · refine (check_ok _ ad cap n down fuse fault fs HI.out.i.1 HI.out.i.2.2.2 hR).mono ?_
    rintro e w1 ⟨rfl, hb1⟩
    have HR := Lib.hid hR
    have Hb1 := Lib.hid (Hb0.out.trans (hb1.mono Hb0.out.size))
    replace Hx := Lib.hid ((hb1.block _ (Array.getElem?_eq_some_iff.1 Hx.out).1).trans Hx.out)
    clear d0 d1 d2 d3 d4 d5 d6 d7 hb1 hR
    obtain ⟨d0, d1, d2, d3, d4, d5, d6, d7⟩ := box8 Hx.out
    go_wp2_with fail
    refine (isSize_any w1 size).mono ?_
    rintro e w2 ⟨rfl, rfl⟩
    by_cases hS : 1 ≤ size ∧ size ≤ 262144
    · have e : (decide (1 ≤ size) && decide (size ≤ 262144)) = true := by simp [hS.1, hS.2]
      rw [e]
      clear e
      by_cases hF : fr ≤ nx
      · have hF2 : ¬ nx < fr := by omega
        by_cases hN : nx ≤ 4611686018427387904
        · have hN2 : ¬ (4611686018427387904 : Int) < nx := by omega
          go_wp2
          go_ret
          exact ⟨0, rfl, .inl ⟨⟨HR.out, hS, hF, hN⟩, rfl⟩, Hb1.out⟩
        · have hN2 : (4611686018427387904 : Int) < nx := by omega
          go_wp2
          go_ret
          exact ⟨6, rfl, .inr ⟨fun h => by have h2 : nx ≤ (4611686018427387904 : Int) := h.2.2.2; omega, rfl⟩, Hb1.out⟩
      · have hF2 : nx < fr := by omega
        go_wp2
        go_ret
        exact ⟨6, rfl, .inr ⟨fun h => by have h2 : fr ≤ nx := h.2.2.1; omega, rfl⟩, Hb1.out⟩
    · have e : (decide (1 ≤ size) && decide (size ≤ 262144)) = false := by
        by_cases h1 : 1 ≤ size
        · have : ¬ size ≤ 262144 := fun h => hS ⟨h1, h⟩
          simp [this]
        · simp [h1]
      rw [e]
      clear e
      have HS := Lib.hid hS
      clear hS
      go_wp2
      go_ret
      exact ⟨6, rfl, .inr ⟨fun h => HS.out h.2.1, rfl⟩, Hb1.out⟩
  · refine (check_no _ ad cap n down fuse fault fs HI.out.i.1 HI.out.i.2.2.2 HI.out.fit hR).mono ?_
    rintro e w1 ⟨rfl, hb1⟩
    have HR := Lib.hid hR
    have Hb1 := Lib.hid (Hb0.out.trans (hb1.mono Hb0.out.size))
    clear hb1 hR
    go_wp2
    go_ret
    exact ⟨6, rfl, .inr ⟨fun h => HR.out h.1, rfl⟩, Hb1.out⟩

set_option maxHeartbeats 2000000 in
/-- begin: the log, its list its own -/
theorem lbegin_any (w : World) (ad : Option Addr) (cap n : Nat) (l : L) (hi : Inp w w.heap.size ad n cap l.d.files) (h64 : n ≤ 1000) :
    Calls Tryz.prog 65 #[.agg (l.cells (.slice ad n cap))] w fun e w' => ∃ g ad2 n2 cap2, e = .returned (.pointer (some ⟨g, 0, none⟩)) ∧ w'.heap[g]? = some (.cells (l.cells (.slice ad2 n2 cap2)) 117 (0, 0)) ∧ Inp w' w'.heap.size ad2 n2 cap2 l.d.files ∧ (Value.slice ad2 n2 cap2).ownBlock ≠ some g ∧ w.heap.size ≤ g ∧ (∀ b, (Value.slice ad2 n2 cap2).ownBlock = some b → w.heap.size ≤ b ∧ Free w' b) ∧ Below w.heap.size w w' := by
  obtain ⟨⟨fs, down, fuse, fault⟩, size, fr, nx, broken⟩ := l
  have Hi := Lib.hid hi
  clear hi
  go_enter Tryz.func65, Tryz.ntmps65
  go_wp2_with fail
  refine (clone_any _ ad cap n fs ((Hi.out.keep ((Below.refl _ w).alloc (Nat.le_refl _) _)).mono (by simp)) h64).mono ?_
  rintro e w1 ⟨v, rfl, hr, hb⟩
  have hD : w1.heap[w.heap.size]? = some (.cells (lcells (.slice ad n cap) down fuse fault size fr nx broken) 27 (0, 0)) := (hb.block _ (by simp)).trans (blk_new w _)
  obtain ⟨ad1, cap1, hv⟩ := hr.form
  subst hv
  obtain ⟨d0, d1, d2, d3, d4, d5, d6, d7⟩ := box8 hD
  have f0 := frozen_of_row w1 w.heap.size 0 _ 27 hD
  have hne : (Value.slice ad1 fs.length cap1).ownBlock ≠ some w.heap.size := fun e => by have := (hr.lt _ e).1; simp at this; omega
  have hlt := (Array.getElem?_eq_some_iff.1 hD).1
  have Hfr := Lib.hid (show ∀ k, (Value.slice ad1 fs.length cap1).ownBlock = some k → Free w1 k from hr.free)
  have Hr := Lib.hid (hr.set_far (o := 0) (.slice ad1 fs.length cap1) hne)
  have Hb := Lib.hid (((Below.refl w.heap.size w).alloc (Nat.le_refl _) (.cells (lcells (.slice ad n cap) down fuse fault size fr nx broken) 27)).trans (hb.mono (by simp)))
  have Hnew := Lib.hid (show ∀ k, (Value.slice ad1 fs.length cap1).ownBlock = some k → w.heap.size < k ∧ k < w1.heap.size from fun k hk => ⟨by have := (hr.lt k hk).1; simp at this; omega, (hr.lt k hk).2⟩)
  clear hr hb hD hne
  go_wp2
  go_ret
  refine ⟨w1.heap.size, ad1, fs.length, cap1, rfl, ?_, ?_, ?_, ?_, ?_, ?_⟩
  · have := blk_new (w1.setCell ⟨w.heap.size, 0, none⟩ (.slice ad1 fs.length cap1)) (.cells (lcells (.slice ad1 fs.length cap1) down fuse fault size fr nx broken) 117)
    simpa using this
  · obtain ⟨ad', cap', hv', hI⟩ := Inp.of_row (FRow.alloc Hr.out (.cells (lcells (.slice ad1 fs.length cap1) down fuse fault size fr nx broken) 117))
    injection hv' with e1 _ e3
    subst e1 e3
    exact hI
  · intro e; have := Hnew.out _ e; omega
  · have := Hb.out.size; omega
  · intro b hb
    refine ⟨by have := Hnew.out _ hb; omega, ?_⟩
    have h1 := (Hfr.out b hb).set w.heap.size 0 (.slice ad1 fs.length cap1)
    exact h1.keep ((Below.refl _ _).alloc (Nat.le_refl _) _) h1.lt
  · exact ((Hb.out.setCell (by simp) _).alloc (by simp [World.setCell]; have := Hb.out.size; omega) _)
end Go.Proofs.YtkhmdofeonlnpaaGreatDoor

/- SEGMENT: THE WALK OVER changed's do. -/
namespace Go.Proofs.YtkhmdofeonlnpaaGreatDoor
open Go.RowKit
set_option maxRecDepth 100000
set_option linter.unusedVariables false
set_option linter.unusedSimpArgs false
/-- steps of a disk, one behind the other, up to the first one that fails -/
noncomputable def doS : L → List S → L × Int
  | l, [] => (l, 0)
  | l, s :: r => if (doo l.d s).2 = 0 then doS { l with d := (doo l.d s).1 } r else ({ l with d := (doo l.d s).1, broken := true }, (doo l.d s).2)
/-- steps at a place -/
def SAt (w : World) (B : Nat) (ad : Option Addr) (ss : List S) (no : Nat) : Prop := ss ≠ [] → ∃ g off, ad = some ⟨g, off, none⟩ ∧ g < B ∧ g ≠ no ∧ ∀ i s, ss[i]? = some s →
  w.cell? ⟨g, off + i * 4, none⟩ = some (.int .u8 s.kind) ∧ w.cell? ⟨g, off + i * 4 + 1, none⟩ = some (.string s.name) ∧ w.cell? ⟨g, off + i * 4 + 2, none⟩ = some (.string s.data) ∧ w.cell? ⟨g, off + i * 4 + 3, none⟩ = some (.int .i64 s.size)
theorem SAt.keep {w w' : World} {B no : Nat} {ad : Option Addr} {ss : List S} (h : SAt w B ad ss no) (hk : ∀ k, k < B → k ≠ no → w'.heap[k]? = w.heap[k]?) : SAt w' B ad ss no := fun hne => by
  obtain ⟨g, off, e, hg, hn, hc⟩ := h hne
  refine ⟨g, off, e, hg, hn, fun i s hi => ?_⟩
  obtain ⟨h0, h1, h2, h3⟩ := hc i s hi
  exact ⟨(World.cell?_of_block (hk g hg hn)).trans h0, (World.cell?_of_block (hk g hg hn)).trans h1, (World.cell?_of_block (hk g hg hn)).trans h2, (World.cell?_of_block (hk g hg hn)).trans h3⟩
def SFit (s : S) : Prop := s.name.size ≤ 9223372036854775807 ∧ s.data.size ≤ 9223372036854775807
/-- the log at block g, its list elsewhere -/
structure LAt (w : World) (g : Nat) (ad : Option Addr) (n cap : Nat) (l : L) : Prop where
  h : w.heap[g]? = some (Obj.cells (l.cells (.slice ad n cap)) 117 (0, 0))
  d : DIn w ad n cap l.d.fuse l.d.fault l.d.files
  o : (Value.slice ad n cap).ownBlock ≠ some g
  f : ∀ b, (Value.slice ad n cap).ownBlock = some b → Free w b
theorem LAt.under {w w' : World} {g : Nat} {ad : Option Addr} {n cap : Nat} {l : L} (h : LAt w g ad n cap l) (hb : Below w.heap.size w w') : LAt w' g ad n cap l := ⟨(hb.block _ (Array.getElem?_eq_some_iff.1 h.h).1).trans h.h, h.d.under hb, h.o, fun b e => (h.f b e).under hb⟩
/-- what lies elsewhere is kept -/
structure Kd (g : Nat) (w w' : World) : Prop where
  os : w'.os = w.os
  g : w.grownBy w' (some g)
theorem kd_refl (g : Nat) (w : World) : w.grownBy w (some g) := World.grownBy.refl w _
theorem kd_below {g : Nat} {w0 w w' : World} (h : w0.grownBy w (some g)) (hb : Below w.heap.size w w') : w0.grownBy w' (some g) :=
  ⟨hb.os.trans h.os, hb.tape.trans h.tape, hb.output.trans h.output, Nat.le_trans h.size hb.size, fun k hk hne => (hb.block k (Nat.lt_of_lt_of_le hk h.size)).trans (h.block k hk hne)⟩
theorem kd_set {g o : Nat} {w0 w : World} (h : w0.grownBy w (some g)) (u : Value) : w0.grownBy (w.setCell ⟨g, o, none⟩ u) (some g) :=
  ⟨h.os, h.tape, h.output, by simp [World.setCell]; exact h.size, fun k hk hne => (Below.heap_setCell w ⟨g, o, none⟩ u k (by rintro rfl; exact hne rfl)).trans (h.block k hk hne)⟩
/-- a disk is stored -/
theorem LAt.put {w : World} {g : Nat} {ad ad2 : Option Addr} {n cap n2 cap2 : Nat} {l : L} {dn : Bool} {fu fa : Int} {gs : List F} (h : LAt w g ad n cap l) (hd : DIn w ad2 n2 cap2 fu fa gs) (ho : (Value.slice ad2 n2 cap2).ownBlock ≠ some g) (hf : ∀ b, (Value.slice ad2 n2 cap2).ownBlock = some b → Free w b) :
    LAt ((((w.setCell ⟨g, 0, none⟩ (.slice ad2 n2 cap2)).setCell ⟨g, 1, none⟩ (.bool dn)).setCell ⟨g, 2, none⟩ (.int .i64 fu)).setCell ⟨g, 3, none⟩ (.int .i64 fa)) g ad2 n2 cap2 { l with d := ⟨gs, dn, fu, fa⟩ } :=
  ⟨heap_setCell_same _ g 3 _ 117 _ (heap_setCell_same _ g 2 _ 117 _ (heap_setCell_same _ g 1 _ 117 _ (heap_setCell_same w g 0 _ 117 _ h.h))),
   ⟨(Inp.set (Inp.set (Inp.set (Inp.set hd.i ho) ho) ho) ho).mono (by simp [World.setCell]), hd.fit, hd.u0, hd.u1, hd.f0, hd.f1⟩, ho, fun b e => ((((hf b e).set _ _ _).set _ _ _).set _ _ _).set _ _ _⟩
theorem LAt.brk {w : World} {g : Nat} {ad : Option Addr} {n cap : Nat} {l : L} (h : LAt w g ad n cap l) (b : Bool) : LAt (w.setCell ⟨g, 7, none⟩ (.bool b)) g ad n cap { l with broken := b } :=
  ⟨heap_setCell_same w g 7 _ 117 _ h.h, ⟨(Inp.set h.d.i h.o).mono (by simp [World.setCell]), h.d.fit, h.d.u0, h.d.u1, h.d.f0, h.d.f1⟩, h.o, fun b e => (h.f b e).set _ _ _⟩

set_option maxHeartbeats 4000000 in
theorem ldo_any (w : World) (g : Nat) (ad : Option Addr) (n cap : Nat) (l : L) (ads : Option Addr) (caps : Nat) (ss : List S) (h : LAt w g ad n cap l) (hS : SAt w w.heap.size ads ss g) (hfit : ∀ s ∈ ss, SFit s) (hlen : ss.length ≤ 1000000) :
    Calls Tryz.prog 67 #[.pointer (some ⟨g, 0, none⟩), .slice ads ss.length caps] w fun e w' => ∃ ad2 n2 cap2, e = .returned (.int .i64 (doS l ss).2) ∧ LAt w' g ad2 n2 cap2 (doS l ss).1 ∧ w.grownBy w' (some g) ∧
      ∀ b, (Value.slice ad2 n2 cap2).ownBlock = some b → (Value.slice ad n cap).ownBlock = some b ∨ w.heap.size ≤ b := by
  have H := Lib.hid h
  have HS := Lib.hid hS
  have Hfit := Lib.hid hfit
  obtain ⟨m, hm⟩ : ∃ m, ss.length = m := ⟨_, rfl⟩
  rw [hm]
  rw [hm] at hlen
  have Hm := Lib.hid hm
  clear h hS hfit hm
  go_enter Tryz.func67, Tryz.ntmps67
  go_wp2
  go_loopw [10] (fun i wr => ∃ (k : Nat) (lk : L) (ad2 : Option Addr) (n2 cap2 : Nat), i = .int .i64 (k : Int) ∧ k ≤ m ∧ LAt wr g ad2 n2 cap2 lk ∧ w.grownBy wr (some g) ∧ doS l ss = doS lk (ss.drop k) ∧
    ∀ b, (Value.slice ad2 n2 cap2).ownBlock = some b → (Value.slice ad n cap).ownBlock = some b ∨ w.heap.size ≤ b) (fun i _ => m - (intOf i).toNat)
  case atStart => exact ⟨0, l, ad, n, cap, rfl, by omega, H.out, kd_refl g w, by simp, fun b hb => .inl hb⟩
  case round =>
    obtain ⟨k, lk, ad2, n2, cap2, rfl, hk, hL, hgr, hdo, hown⟩ := hrel
    have HL := Lib.hid hL
    have Hgr := Lib.hid hgr
    have Hdo := Lib.hid hdo
    have Hown := Lib.hid hown
    by_cases hlt : k < m
    · obtain ⟨s, hs⟩ : ∃ s, ss[k]? = some s := ⟨ss[k]'(by have := Hm.out; omega), by simp⟩
      have hne : ss ≠ [] := by rintro rfl; simp at hs
      obtain ⟨gs, off, rfl, hgs, hgn, hc⟩ := (HS.out.keep (w' := wr) (fun k hk hne => hgr.block k hk (fun e => hne (by simpa using e)))) hne
      obtain ⟨q0, q1, q2, q3⟩ := hc k s hs
      have hgs2 : gs < wr.heap.size := Nat.lt_of_lt_of_le hgs hgr.size
      obtain ⟨sn, sd⟩ := Hfit.out s (List.mem_of_getElem? hs)
      have hstep : ss.drop k = s :: ss.drop (k + 1) := by
        have hkl : k < ss.length := (List.getElem?_eq_some_iff.1 hs).1
        rw [List.drop_eq_getElem_cons hkl]
        congr 1
        exact (List.getElem?_eq_some_iff.1 hs).2
      have Hstep := Lib.hid hstep
      obtain ⟨⟨fs, down, fuse, fault⟩, size, fr, nx, broken⟩ := lk
      obtain ⟨sk, snm, sdt, ssz⟩ := s
      simp only at q0 q1 q2 q3 sn sd
      obtain ⟨⟨⟨gs2, dn, fu, fa⟩, code⟩, hr⟩ : ∃ r, doo ⟨fs, down, fuse, fault⟩ ⟨sk, snm, sdt, ssz⟩ = r := ⟨_, rfl⟩
      have hall := doo_all ⟨fs, down, fuse, fault⟩ ⟨sk, snm, sdt, ssz⟩ ⟨HL.out.d.u0, HL.out.d.u1⟩ ⟨HL.out.d.f0, HL.out.d.f1⟩
      rw [hr] at hall
      have Hall := Lib.hid hall
      have Hr := Lib.hid hr
      obtain ⟨Wa, hWa⟩ : ∃ W, W = wr.alloc (.cells #[.int .u8 sk, .string snm, .string sdt, .int .i64 ssz] 182) := ⟨_, rfl⟩
      have hal : Below wr.heap.size wr Wa := by rw [hWa]; exact (Below.refl _ wr).alloc (Nat.le_refl _) _
      have hbx : Wa.heap[wr.heap.size]? = some (.cells #[.int .u8 sk, .string snm, .string sdt, .int .i64 ssz] 182 (0, 0)) := by rw [hWa]; exact blk_new wr _
      have HLa := Lib.hid (hL.under hal)
      have Hal := Lib.hid hal
      have Hbx := Lib.hid hbx
      have hszI := (Array.getElem?_eq_some_iff.1 hL.h).1
      clear hL hgr hdo hown hc hs hne hstep hr hall hal hbx
      go_upto_region 5 with (fail)
      rw [← hWa]
      clear hWa
      refine wp_region_any (by kernel_rfl) ?_
      obtain ⟨X, hX⟩ : ∃ X, Wa.drew = X := ⟨_, rfl⟩
      change wpAny _ _ _ _ _ _ _ (Wa.drew)
      rw [hX]
      have hbX : Below Wa.heap.size Wa X := by rw [← hX]; exact (Below.refl _ Wa).drew
      have HLx := Lib.hid (HLa.out.under hbX)
      have Hbx2 := Lib.hid ((hbX.block _ (Array.getElem?_eq_some_iff.1 Hbx.out).1).trans Hbx.out)
      have Hbel := Lib.hid (Hal.out.trans (hbX.mono Hal.out.size))
      clear hbX hX HLa Hbx Hal
      obtain ⟨d0, d1, d2, d3, d4, d5, d6, d7⟩ := box8 HLx.out.h
      obtain ⟨b0, b1, b2, b3⟩ := box4' Hbx2.out
      refine wpAny_take (i := 0) (v := ?va1) rfl (by kernel_rfl) (by kernel_rfl) (by kernel_rfl) (fun _ _ _ h => h) (Or.inl ⟨by kernel_rfl, ?ha1⟩) ?ra1
      case ha1 => (intro w; go_simp; first | done | (with_reducible rfl))
      refine wpAny_take (i := 1) (v := ?va2) rfl (by kernel_rfl) (by kernel_rfl) (by kernel_rfl) (fun _ _ _ h => h) (Or.inl ⟨by kernel_rfl, ?ha2⟩) ?ra2
      case ha2 => (intro w; go_simp; first | done | (with_reducible rfl))
      refine wpAny_take (i := 2) (v := ?va3) rfl (by kernel_rfl) (by kernel_rfl) (by kernel_rfl) (fun _ _ _ h => h) (Or.inl ⟨by kernel_rfl, ?ha3⟩) ?ra3
      case ha3 => (intro w; go_simp; first | done | (with_reducible rfl))
      refine wpAny_take (i := 3) (v := ?va4) rfl (by kernel_rfl) (by kernel_rfl) (by kernel_rfl) (fun _ _ _ h => h) (Or.inl ⟨by kernel_rfl, ?ha4⟩) ?ra4
      case ha4 => (intro w; go_simp; first | done | (with_reducible rfl))
      refine wpAny_take (i := 4) (v := ?va5) rfl (by kernel_rfl) (by kernel_rfl) (by kernel_rfl) (fun _ _ _ h => h) (Or.inl ⟨by kernel_rfl, ?ha5⟩) ?ra5
      case ha5 => (intro w; go_simp; first | done | (with_reducible rfl))
      refine wpAny_ready (rs := [5, 6]) (by kernel_rfl) (by simp) ?_
      refine AllReady.cons rfl (fun K hK => ?_) ?_
      · skip
        go_simp
        refine hK _ _ ?_
        clear hK K
        refine wpAny_ready (rs := [6]) (by kernel_rfl) (by simp) ?_
        refine AllReady.cons rfl (fun K hK => ?_) AllReady.nil
        go_simp
        refine hK _ _ ?_
        clear hK K
        refine wpAny_ready (rs := [7]) (by kernel_rfl) (by simp) ?_
        refine AllReady.cons rfl (fun K hK => ?_) AllReady.nil
        go_simp
        go_at_call 117
        refine (DoN_any X ad2 n2 cap2 down fuse fault fs sk snm sdt ssz HLx.out.d sn sd).mono ?_
        rw [Hr.out]
        rintro e w5 ⟨ad5, n5, cap5, rfl, hi5, hb5, hf5⟩
        clear d0 d1 d2 d3 d4 d5 d6 d7 b0 b1 b2 b3
        have HL5 := Lib.hid (HLx.out.under hb5)
        have hne5 : (Value.slice ad5 n5 cap5).ownBlock ≠ some g := fun e => by have h1 := (hf5 _ e).1; have h2 := (Array.getElem?_eq_some_iff.1 HLx.out.h).1; omega
        have HD5 := Lib.hid (show DIn w5 ad5 n5 cap5 fu fa gs2 from ⟨hi5, fun f hf => okF_fit (Hall.out.1.ok f hf), Hall.out.2.1.1, Hall.out.2.1.2, Hall.out.2.2.1, Hall.out.2.2.2⟩)
        have Hput := Lib.hid (HL5.out.put (dn := dn) HD5.out hne5 (fun b e => (hf5 b e).2))
        have Hgr5 := Lib.hid (kd_set (o := 3) (kd_set (o := 2) (kd_set (o := 1) (kd_set (o := 0) (kd_below (kd_below Hgr.out Hbel.out) (hb5)) (.slice ad5 n5 cap5)) (.bool dn)) (.int .i64 fu)) (.int .i64 fa))
        have Hown5 := Lib.hid (show ∀ b, (Value.slice ad5 n5 cap5).ownBlock = some b → (Value.slice ad n cap).ownBlock = some b ∨ w.heap.size ≤ b from fun b hb => .inr (by have h1 := (hf5 b hb).1; have h2 := Hbel.out.size; have h3 := Hgr.out.size; omega))
        obtain ⟨d0, d1, d2, d3, d4, d5, d6, d7⟩ := box8 HL5.out.h
        have f0 := frozen_of_row w5 g 0 _ 117 HL5.out.h
        have f1 := frozen_of_row w5 g 1 _ 117 HL5.out.h
        have f2 := frozen_of_row w5 g 2 _ 117 HL5.out.h
        have f3 := frozen_of_row w5 g 3 _ 117 HL5.out.h
        have hg5 := (Array.getElem?_eq_some_iff.1 HL5.out.h).1
        clear hi5 hb5 hf5
        refine hK _ _ ?_
        clear hK K
        refine wpAny_take (i := 8) (v := ?va6) rfl (by kernel_rfl) (by kernel_rfl) (by kernel_rfl) (fun _ _ _ h => h) (Or.inl ⟨by kernel_rfl, ?ha6⟩) ?ra6
        case ha6 => (intro w; go_simp; first | done | (with_reducible rfl))
        refine wpAny_take (i := 9) (v := ?va7) rfl (by kernel_rfl) (by kernel_rfl) (by kernel_rfl) (fun _ _ _ h => h) (Or.inl ⟨by kernel_rfl, ?ha7⟩) ?ra7
        case ha7 => (intro w; go_simp; first | done | (with_reducible rfl))
        refine wpAny_take (i := 10) (v := ?va8) rfl (by kernel_rfl) (by kernel_rfl) (by kernel_rfl) (fun _ _ _ h => h) (Or.inl ⟨by kernel_rfl, ?ha8⟩) ?ra8
        case ha8 => (intro w; go_simp; first | done | (with_reducible rfl))
        refine wpAny_take (i := 11) (v := ?va9) rfl (by kernel_rfl) (by kernel_rfl) (by kernel_rfl) (fun _ _ _ h => h) (Or.inl ⟨by kernel_rfl, ?ha9⟩) ?ra9
        case ha9 => (intro w; go_simp; first | done | (with_reducible rfl))
        refine wpAny_take (i := 12) (v := ?va10) rfl (by kernel_rfl) (by kernel_rfl) (by kernel_rfl) (fun _ _ _ h => h) (Or.inl ⟨by kernel_rfl, ?ha10⟩) ?ra10
        case ha10 => (intro w; go_simp; first | done | (with_reducible rfl))
        refine wpAny_take (i := 13) (v := ?va11) rfl (by kernel_rfl) (by kernel_rfl) (by kernel_rfl) (fun _ _ _ h => h) (Or.inl ⟨by kernel_rfl, ?ha11⟩) ?ra11
        case ha11 => (intro w; go_simp; first | done | (with_reducible rfl))
        refine wpAny_ready (rs := [14]) (by kernel_rfl) (by simp) ?_
        refine AllReady.cons rfl (fun K hK => ?_) AllReady.nil
        go_simp
        refine hK _ _ ?_
        clear hK K
        refine wpAny_ready (rs := [15]) (by kernel_rfl) (by simp) ?_
        refine AllReady.cons rfl (fun K hK => ?_) AllReady.nil
        go_simp
        refine hK _ _ ?_
        clear hK K
        refine wpAny_done (by kernel_rfl) ?_ _
        try go_simp
        clear d0 d1 d2 d3 d4 d5 d6 d7 f0 f1 f2 f3
        obtain ⟨W6, hW6⟩ : ∃ W, W = ((((w5.setCell ⟨g, 0, none⟩ (.slice ad5 n5 cap5)).setCell ⟨g, 1, none⟩ (.bool dn)).setCell ⟨g, 2, none⟩ (.int .i64 fu)).setCell ⟨g, 3, none⟩ (.int .i64 fa)) := ⟨_, rfl⟩
        rw [← hW6]
        rw [← hW6] at Hput Hgr5
        clear hW6
        by_cases hc0 : code = 0
        · subst hc0
          have hfin : doS l ss = doS ⟨⟨gs2, dn, fu, fa⟩, size, fr, nx, broken⟩ (ss.drop (k + 1)) := by
            rw [Hdo.out, Hstep.out, doS, Hr.out, if_pos rfl]
          have Hfin := Lib.hid hfin
          clear hfin
          go_wp2
          go_roundw
          case rel => exact ⟨k + 1, ⟨⟨gs2, dn, fu, fa⟩, size, fr, nx, broken⟩, ad5, n5, cap5, by go_num, by omega, Hput.out, Hgr5.out, Hfin.out, Hown5.out⟩
          case measure => simp [intOf]; omega
        · have hc1 : (code != 0) = true := by simp [hc0]
          have hfin : doS l ss = (⟨⟨gs2, dn, fu, fa⟩, size, fr, nx, true⟩, code) := by
            rw [Hdo.out, Hstep.out, doS, Hr.out, if_neg hc0]
          have Hfin := Lib.hid hfin
          have Hbrk := Lib.hid (Hput.out.brk true)
          have Hgr6 := Lib.hid (kd_set (o := 7) Hgr5.out (.bool true))
          obtain ⟨d0, d1, d2, d3, d4, d5, d6, d7⟩ := box8 Hput.out.h
          have f7 := frozen_of_row W6 g 7 _ 117 Hput.out.h
          clear hfin
          go_wp2
          exact bodyPost_ret (v := .int .i64 code) (by simp [results, Tryz.results67, go_sem]) rfl ⟨by rw [Hfin.out], ad5, n5, cap5, by rw [Hfin.out]; exact Hbrk.out, Hgr6.out, Hown5.out⟩
      refine AllReady.cons rfl (fun K hK => ?_) AllReady.nil
      go_simp
      refine hK _ _ ?_
      clear hK K
      refine wpAny_ready (rs := [5]) (by kernel_rfl) (by simp) ?_
      refine AllReady.cons rfl (fun K hK => ?_) AllReady.nil
      go_simp
      refine hK _ _ ?_
      clear hK K
      refine wpAny_ready (rs := [7]) (by kernel_rfl) (by simp) ?_
      refine AllReady.cons rfl (fun K hK => ?_) AllReady.nil
      go_simp
      go_at_call 117
      refine (DoN_any X ad2 n2 cap2 down fuse fault fs sk snm sdt ssz HLx.out.d sn sd).mono ?_
      rw [Hr.out]
      rintro e w5 ⟨ad5, n5, cap5, rfl, hi5, hb5, hf5⟩
      clear d0 d1 d2 d3 d4 d5 d6 d7 b0 b1 b2 b3
      have HL5 := Lib.hid (HLx.out.under hb5)
      have hne5 : (Value.slice ad5 n5 cap5).ownBlock ≠ some g := fun e => by have h1 := (hf5 _ e).1; have h2 := (Array.getElem?_eq_some_iff.1 HLx.out.h).1; omega
      have HD5 := Lib.hid (show DIn w5 ad5 n5 cap5 fu fa gs2 from ⟨hi5, fun f hf => okF_fit (Hall.out.1.ok f hf), Hall.out.2.1.1, Hall.out.2.1.2, Hall.out.2.2.1, Hall.out.2.2.2⟩)
      have Hput := Lib.hid (HL5.out.put (dn := dn) HD5.out hne5 (fun b e => (hf5 b e).2))
      have Hgr5 := Lib.hid (kd_set (o := 3) (kd_set (o := 2) (kd_set (o := 1) (kd_set (o := 0) (kd_below (kd_below Hgr.out Hbel.out) (hb5)) (.slice ad5 n5 cap5)) (.bool dn)) (.int .i64 fu)) (.int .i64 fa))
      have Hown5 := Lib.hid (show ∀ b, (Value.slice ad5 n5 cap5).ownBlock = some b → (Value.slice ad n cap).ownBlock = some b ∨ w.heap.size ≤ b from fun b hb => .inr (by have h1 := (hf5 b hb).1; have h2 := Hbel.out.size; have h3 := Hgr.out.size; omega))
      obtain ⟨d0, d1, d2, d3, d4, d5, d6, d7⟩ := box8 HL5.out.h
      have f0 := frozen_of_row w5 g 0 _ 117 HL5.out.h
      have f1 := frozen_of_row w5 g 1 _ 117 HL5.out.h
      have f2 := frozen_of_row w5 g 2 _ 117 HL5.out.h
      have f3 := frozen_of_row w5 g 3 _ 117 HL5.out.h
      have hg5 := (Array.getElem?_eq_some_iff.1 HL5.out.h).1
      clear hi5 hb5 hf5
      refine hK _ _ ?_
      clear hK K
      refine wpAny_take (i := 8) (v := ?va12) rfl (by kernel_rfl) (by kernel_rfl) (by kernel_rfl) (fun _ _ _ h => h) (Or.inl ⟨by kernel_rfl, ?ha12⟩) ?ra12
      case ha12 => (intro w; go_simp; first | done | (with_reducible rfl))
      refine wpAny_take (i := 9) (v := ?va13) rfl (by kernel_rfl) (by kernel_rfl) (by kernel_rfl) (fun _ _ _ h => h) (Or.inl ⟨by kernel_rfl, ?ha13⟩) ?ra13
      case ha13 => (intro w; go_simp; first | done | (with_reducible rfl))
      refine wpAny_take (i := 10) (v := ?va14) rfl (by kernel_rfl) (by kernel_rfl) (by kernel_rfl) (fun _ _ _ h => h) (Or.inl ⟨by kernel_rfl, ?ha14⟩) ?ra14
      case ha14 => (intro w; go_simp; first | done | (with_reducible rfl))
      refine wpAny_take (i := 11) (v := ?va15) rfl (by kernel_rfl) (by kernel_rfl) (by kernel_rfl) (fun _ _ _ h => h) (Or.inl ⟨by kernel_rfl, ?ha15⟩) ?ra15
      case ha15 => (intro w; go_simp; first | done | (with_reducible rfl))
      refine wpAny_take (i := 12) (v := ?va16) rfl (by kernel_rfl) (by kernel_rfl) (by kernel_rfl) (fun _ _ _ h => h) (Or.inl ⟨by kernel_rfl, ?ha16⟩) ?ra16
      case ha16 => (intro w; go_simp; first | done | (with_reducible rfl))
      refine wpAny_take (i := 13) (v := ?va17) rfl (by kernel_rfl) (by kernel_rfl) (by kernel_rfl) (fun _ _ _ h => h) (Or.inl ⟨by kernel_rfl, ?ha17⟩) ?ra17
      case ha17 => (intro w; go_simp; first | done | (with_reducible rfl))
      refine wpAny_ready (rs := [14]) (by kernel_rfl) (by simp) ?_
      refine AllReady.cons rfl (fun K hK => ?_) AllReady.nil
      go_simp
      refine hK _ _ ?_
      clear hK K
      refine wpAny_ready (rs := [15]) (by kernel_rfl) (by simp) ?_
      refine AllReady.cons rfl (fun K hK => ?_) AllReady.nil
      go_simp
      refine hK _ _ ?_
      clear hK K
      refine wpAny_done (by kernel_rfl) ?_ _
      try go_simp
      clear d0 d1 d2 d3 d4 d5 d6 d7 f0 f1 f2 f3
      obtain ⟨W6, hW6⟩ : ∃ W, W = ((((w5.setCell ⟨g, 0, none⟩ (.slice ad5 n5 cap5)).setCell ⟨g, 1, none⟩ (.bool dn)).setCell ⟨g, 2, none⟩ (.int .i64 fu)).setCell ⟨g, 3, none⟩ (.int .i64 fa)) := ⟨_, rfl⟩
      rw [← hW6]
      rw [← hW6] at Hput Hgr5
      clear hW6
      by_cases hc0 : code = 0
      · subst hc0
        have hfin : doS l ss = doS ⟨⟨gs2, dn, fu, fa⟩, size, fr, nx, broken⟩ (ss.drop (k + 1)) := by
          rw [Hdo.out, Hstep.out, doS, Hr.out, if_pos rfl]
        have Hfin := Lib.hid hfin
        clear hfin
        go_wp2
        go_roundw
        case rel => exact ⟨k + 1, ⟨⟨gs2, dn, fu, fa⟩, size, fr, nx, broken⟩, ad5, n5, cap5, by go_num, by omega, Hput.out, Hgr5.out, Hfin.out, Hown5.out⟩
        case measure => simp [intOf]; omega
      · have hc1 : (code != 0) = true := by simp [hc0]
        have hfin : doS l ss = (⟨⟨gs2, dn, fu, fa⟩, size, fr, nx, true⟩, code) := by
          rw [Hdo.out, Hstep.out, doS, Hr.out, if_neg hc0]
        have Hfin := Lib.hid hfin
        have Hbrk := Lib.hid (Hput.out.brk true)
        have Hgr6 := Lib.hid (kd_set (o := 7) Hgr5.out (.bool true))
        obtain ⟨d0, d1, d2, d3, d4, d5, d6, d7⟩ := box8 Hput.out.h
        have f7 := frozen_of_row W6 g 7 _ 117 Hput.out.h
        clear hfin
        go_wp2
        exact bodyPost_ret (v := .int .i64 code) (by simp [results, Tryz.results67, go_sem]) rfl ⟨by rw [Hfin.out], ad5, n5, cap5, by rw [Hfin.out]; exact Hbrk.out, Hgr6.out, Hown5.out⟩
    · have hkm : k = m := by omega
      have hfin : doS l ss = (lk, 0) := by rw [hdo, List.drop_of_length_le (by have := Hm.out; omega)]; rfl
      have Hfin := Lib.hid hfin
      clear hL hgr hdo hown hkm hfin
      go_wp2
      go_ret
      exact ⟨ad2, n2, cap2, by rw [Hfin.out]; rfl, by rw [Hfin.out]; exact HL.out, Hgr.out, Hown.out⟩
end Go.Proofs.YtkhmdofeonlnpaaGreatDoor

/- SEGMENT: THE WALKS OVER last, hasRoom. -/
namespace Go.Proofs.YtkhmdofeonlnpaaGreatDoor
open Go.RowKit
set_option maxRecDepth 100000
set_option linter.unusedVariables false
set_option linter.unusedSimpArgs false
theorem right_names {fs : List F} (h : Right fs) : ∀ f ∈ fs, f.name.size ≤ 1000000 := fun f hf => by
  have := (h.ok f hf).1.2
  omega
/-- the last file of a log -/
noncomputable def lastM (fs : List F) : Option SF := (filesM fs).getLast?
noncomputable def lastV (fs : List F) : Value := match lastM fs with
  | some s => .tuple #[.agg s.cells, .bool true]
  | none => .tuple #[.agg #[.string ⟨#[]⟩, .string ⟨#[]⟩, .int .i64 0, .int .u64 0], .bool false]
theorem sfc_at : ∀ (l : List SF) (i : Nat) (s : SF), l[i]? = some s → ∀ j, j < 4 → (sfc l)[i * 4 + j]? = s.cells.toList[j]?
  | [], i, s, h => by simp at h
  | x :: l, 0, s, h => by
    simp at h
    subst h
    intro j hj
    rw [sfc, List.flatMap_cons, Nat.zero_mul, Nat.zero_add, List.getElem?_append_left (by simpa using hj)]
  | x :: l, i + 1, s, h => by
    intro j hj
    have := sfc_at l i s (by simpa using h) j hj
    rw [sfc, List.flatMap_cons, List.getElem?_append_right (by simp; omega)]
    rw [sfc] at this
    rw [← this]
    congr 1
    simp
    omega
theorem WRow.place {w : World} {base : Nat} {v : Value} {l : List SF} (h : WRow w base v l) (hne : l ≠ []) : ∃ g cap, v = .slice (some ⟨g, 0, none⟩) l.length cap ∧ base ≤ g ∧ g < w.heap.size ∧ l.length ≤ cap ∧ WAt w g 0 l := by
  rcases h.2 with ⟨_, hn⟩ | ⟨g, cap, cur, hv, hb, hg, hnc, _⟩
  · exact absurd (List.eq_nil_of_length_eq_zero hn) hne
  · refine ⟨g, cap, hv, hb, (Array.getElem?_eq_some_iff.1 hg).1, hnc, fun i s hi => ?_⟩
    have hc : ∀ j u, (sfc l)[j]? = some u → w.cell? ⟨g, j, none⟩ = some u := fun j u hu => by
      have := World.ownsRow.cells h (g := g) (by rw [hv]; rfl) j u hu
      simpa [Addr.add_lit] using this
    have ha := sfc_at l i s hi
    refine ⟨?_, ?_, ?_, ?_⟩
    · rw [Nat.zero_add]; exact hc _ _ (by have := ha 0 (by omega); simpa using this)
    · rw [Nat.zero_add]; exact hc _ _ (by rw [ha 1 (by omega)]; rfl)
    · rw [Nat.zero_add]; exact hc _ _ (by rw [ha 2 (by omega)]; rfl)
    · rw [Nat.zero_add]; exact hc _ _ (by rw [ha 3 (by omega)]; rfl)
theorem WRow.form {w : World} {base : Nat} {v : Value} {l : List SF} (h : WRow w base v l) : ∃ ad cap, v = .slice ad l.length cap := by
  rcases h.2 with ⟨hv, hn⟩ | ⟨g, cap, cur, hv, _⟩
  · exact ⟨none, 0, by rw [hv, hn]⟩
  · exact ⟨_, cap, hv⟩
theorem cell_put4 {w : World} {g : Nat} {x0 x1 x2 x3 : Value} {t : TypeId} (h : w.heap[g]? = some (.cells #[x0, x1, x2, x3] t (0, 0))) (v0 v1 v2 v3 : Value) :
    let W := (((w.setCell ⟨g, 0, none⟩ v0).setCell ⟨g, 1, none⟩ v1).setCell ⟨g, 2, none⟩ v2).setCell ⟨g, 3, none⟩ v3
    W.cell? ⟨g, 0, none⟩ = some v0 ∧ W.cell? ⟨g, 1, none⟩ = some v1 ∧ W.cell? ⟨g, 2, none⟩ = some v2 ∧ W.cell? ⟨g, 3, none⟩ = some v3 :=
  box4' (heap_setCell_same _ g 3 _ t _ (heap_setCell_same _ g 2 _ t _ (heap_setCell_same _ g 1 _ t _ (heap_setCell_same w g 0 _ t _ h))))

set_option maxHeartbeats 2000000 in
theorem last_any (w : World) (g : Nat) (ad : Option Addr) (n cap : Nat) (l : L) (h : LAt w g ad n cap l) (hR : Right l.d.files) (hT : Tabs w) :
    Calls Tryz.prog 197 #[.pointer (some ⟨g, 0, none⟩)] w fun e w' => e = .returned (lastV l.d.files) ∧ Below w.heap.size w w' := by
  obtain ⟨⟨fs, down, fuse, fault⟩, size, fr, nx, broken⟩ := l
  have hb0 : Below w.heap.size w (w.alloc (.cells #[.string ⟨#[]⟩, .string ⟨#[]⟩, .int .i64 0, .int .u64 0] 178)) := (Below.refl _ w).alloc (Nat.le_refl _) _
  have hz := blk_new w (.cells #[.string ⟨#[]⟩, .string ⟨#[]⟩, .int .i64 0, .int .u64 0] 178)
  have HL := Lib.hid (h.under hb0)
  have HT := Lib.hid (hT.under hb0)
  have Hb0 := Lib.hid hb0
  have Hz := Lib.hid hz
  have HR := Lib.hid hR
  have h64 : n ≤ 1000 := by have := h.d.i.1; have := hR.1; simp only at *; omega
  have hlt := (Array.getElem?_eq_some_iff.1 h.h).1
  obtain ⟨d0, d1, d2, d3, d4, d5, d6, d7⟩ := box8 h.h
  clear h hb0 hz hT hR
  go_enter Tryz.func197, Tryz.ntmps197
  go_wp2_with fail
  refine (files_any _ ad n cap down fuse fault fs HL.out.d.i h64 (right_names HR.out) HT.out).mono ?_
  rintro e w1 ⟨v, rfl, hrow, hb1⟩
  have Hrow := Lib.hid hrow
  have Hb1 := Lib.hid (Hb0.out.trans (hb1.mono Hb0.out.size))
  replace Hz := Lib.hid ((hb1.block _ (Array.getElem?_eq_some_iff.1 Hz.out).1).trans Hz.out)
  clear d0 d1 d2 d3 d4 d5 d6 d7 hb1 hrow
  obtain ⟨z0, z1, z2, z3⟩ := box4' Hz.out
  have y0 := frozen_of_row w1 w.heap.size 0 _ 178 Hz.out
  have y1 := frozen_of_row w1 w.heap.size 1 _ 178 Hz.out
  have y2 := frozen_of_row w1 w.heap.size 2 _ 178 Hz.out
  have y3 := frozen_of_row w1 w.heap.size 3 _ 178 Hz.out
  have hlz := (Array.getElem?_eq_some_iff.1 Hz.out).1
  by_cases hne : filesM fs = []
  · have hv : lastV fs = .tuple #[.agg #[.string ⟨#[]⟩, .string ⟨#[]⟩, .int .i64 0, .int .u64 0], .bool false] := by unfold lastV lastM; rw [hne]; rfl
    obtain ⟨ad3, cap3, rfl⟩ := Hrow.out.form
    rw [hne]
    have Hv := Lib.hid hv
    have hset := cell_put4 Hz.out (.string ⟨#[]⟩) (.string ⟨#[]⟩) (.int .i64 0) (.int .u64 0)
    have HB := Lib.hid ((((Hb1.out.setCell (p := ⟨w.heap.size, 0, none⟩) (Nat.le_refl _) (.string ⟨#[]⟩)).setCell (p := ⟨w.heap.size, 1, none⟩) (Nat.le_refl _) (.string ⟨#[]⟩)).setCell (p := ⟨w.heap.size, 2, none⟩) (Nat.le_refl _) (.int .i64 0)).setCell (p := ⟨w.heap.size, 3, none⟩) (Nat.le_refl _) (.int .u64 0))
    have Hset := Lib.hid hset
    clear hv hne hset
    go_wp2
    exact bodyPost_ret (v := .tuple #[.agg #[.string ⟨#[]⟩, .string ⟨#[]⟩, .int .i64 0, .int .u64 0], .bool false]) (by simp [results, Tryz.results197, go_sem, z0, z1, z2, z3, Hset.out.1, Hset.out.2.1, Hset.out.2.2.1, Hset.out.2.2.2]) rfl ⟨by rw [Hv.out], HB.out⟩
  · obtain ⟨g2, cap2, rfl, hbg, hg2, hcap, hat⟩ := Hrow.out.place hne
    obtain ⟨k, hk⟩ : ∃ k, (filesM fs).length = k + 1 := ⟨(filesM fs).length - 1, by have := List.length_pos_iff.2 hne; omega⟩
    obtain ⟨s, hs⟩ : ∃ s, (filesM fs)[k]? = some s := ⟨(filesM fs)[k]'(by omega), by simp⟩
    obtain ⟨q0, q1, q2, q3⟩ := hat k s hs
    rw [Nat.zero_add] at q0 q1 q2 q3
    have hv : lastV fs = .tuple #[.agg s.cells, .bool true] := by
      unfold lastV lastM
      rw [List.getLast?_eq_getElem?, hk, Nat.add_sub_cancel, hs]
    rw [hk]
    have Hv := Lib.hid hv
    have hset := cell_put4 Hz.out (.string s.f.name) (.string s.f.data) (.int .i64 s.f.syn) (.int .u64 (s.n : Int))
    have HB := Lib.hid ((((Hb1.out.setCell (p := ⟨w.heap.size, 0, none⟩) (Nat.le_refl _) (.string s.f.name)).setCell (p := ⟨w.heap.size, 1, none⟩) (Nat.le_refl _) (.string s.f.data)).setCell (p := ⟨w.heap.size, 2, none⟩) (Nat.le_refl _) (.int .i64 s.f.syn)).setCell (p := ⟨w.heap.size, 3, none⟩) (Nat.le_refl _) (.int .u64 (s.n : Int)))
    have Hset := Lib.hid hset
    have hk0 : (0 : Int) ≤ (k : Int) := by omega
    have hk1 : (k : Int) < (k : Int) + 1 := by omega
    have hkb : k ≤ 1000 := by have h1 := filesM_len fs; have h2 := HL.out.d.i.1; simp only at h2; omega
    have hwk : wrap64 (k : Int) = (k : Int) := by unfold wrap64; omega
    clear hv hne hset hat hbg hcap hk hs
    go_wp2
    exact bodyPost_ret (v := .tuple #[.agg s.cells, .bool true]) (by simp [results, Tryz.results197, go_sem, z0, z1, z2, z3, Hset.out.1, Hset.out.2.1, Hset.out.2.2.1, Hset.out.2.2.2]) rfl ⟨by rw [Hv.out], HB.out⟩
end Go.Proofs.YtkhmdofeonlnpaaGreatDoor

/- SEGMENT: THE WALK OVER hasRoom. -/
namespace Go.Proofs.YtkhmdofeonlnpaaGreatDoor
open Go.RowKit
set_option maxRecDepth 100000
set_option linter.unusedVariables false
set_option linter.unusedSimpArgs false
/-- is there a last file with room -/
noncomputable def roomM (fs : List F) (size sz : Int) : Bool := match lastM fs with
  | some s => decide ((s.f.data.size : Int) < size) && decide ((s.f.data.size : Int) + sz ≤ 262144)
  | none => false
theorem lastM_mem {fs : List F} {s : SF} (h : lastM fs = some s) : s.f ∈ fs := by
  have h1 : s ∈ filesM fs := List.mem_of_getLast? h
  unfold filesM at h1
  obtain ⟨f, hf, hs⟩ := List.mem_flatMap.1 h1
  unfold sf1 at hs
  split at hs
  · simp at hs; subst hs; exact hf
  · cases hs

set_option maxHeartbeats 2000000 in
theorem room_any (w : World) (g : Nat) (ad : Option Addr) (n cap : Nat) (l : L) (sz : Int) (h : LAt w g ad n cap l) (hR : Right l.d.files) (hT : Tabs w) (hs0 : 0 ≤ sz) (hs1 : sz ≤ 1000000000) :
    Calls Tryz.prog 196 #[.pointer (some ⟨g, 0, none⟩), .int .i64 sz] w fun e w' => e = .returned (.bool (roomM l.d.files l.size sz)) ∧ Below w.heap.size w w' := by
  have H := Lib.hid h
  have HR := Lib.hid hR
  clear hR
  go_enter Tryz.func196, Tryz.ntmps196
  go_wp2_with fail
  refine (last_any w g ad n cap l h HR.out hT).mono ?_
  rintro e w1 ⟨rfl, hb1⟩
  have HL := Lib.hid (h.under hb1)
  have Hb1 := Lib.hid hb1
  clear h hb1 hT
  cases hl : lastM l.d.files with
  | none =>
    have hv : lastV l.d.files = .tuple #[.agg #[.string ⟨#[]⟩, .string ⟨#[]⟩, .int .i64 0, .int .u64 0], .bool false] := by unfold lastV; rw [hl]
    have hr : roomM l.d.files l.size sz = false := by unfold roomM; rw [hl]
    rw [hv]
    have Hr := Lib.hid hr
    have HB := Lib.hid ((Hb1.out.alloc Hb1.out.size (.cells #[.string ⟨#[]⟩, .string ⟨#[]⟩, .int .i64 0, .int .u64 0] 178)))
    clear hl hv hr
    go_wp2
    go_quiet (fail)
    go_wp2
    go_ret
    exact ⟨by rw [Hr.out]; rfl, below_drewN HB.out _⟩
  | some s =>
    have hv : lastV l.d.files = .tuple #[.agg s.cells, .bool true] := by unfold lastV; rw [hl]
    have hd : s.f.data.size ≤ 262144 := (HR.out.ok s.f (lastM_mem hl)).2.1
    rw [hv]
    obtain ⟨Wa, hWa⟩ : ∃ W, W = w1.alloc (.cells s.cells 178) := ⟨_, rfl⟩
    have hal : Below w1.heap.size w1 Wa := by rw [hWa]; exact (Below.refl _ w1).alloc (Nat.le_refl _) _
    have hbx : Wa.heap[w1.heap.size]? = some (.cells s.cells 178 (0, 0)) := by rw [hWa]; exact blk_new w1 _
    have HL2 := Lib.hid (HL.out.under hal)
    have HB := Lib.hid (Hb1.out.trans (hal.mono Hb1.out.size))
    obtain ⟨b0, b1, b2, b3⟩ := box4' hbx
    have hlx := (Array.getElem?_eq_some_iff.1 hbx).1
    obtain ⟨⟨fs, down, fuse, fault⟩, size, fr, nx, broken⟩ := l
    obtain ⟨d0, d1, d2, d3, d4, d5, d6, d7⟩ := box8 HL2.out.h
    have hlg := (Array.getElem?_eq_some_iff.1 HL2.out.h).1
    have hroom : roomM fs size sz = (decide ((s.f.data.size : Int) < size) && decide ((s.f.data.size : Int) + sz ≤ 262144)) := by unfold roomM; rw [hl]
    have Hroom := Lib.hid hroom
    clear hl hv hal hbx hroom
    go_upto_region 2 with (fail)
    rw [← hWa]
    clear hWa
    by_cases c1 : (s.f.data.size : Int) < size
    · have e1 : decide ((s.f.data.size : Int) < size) = true := decide_eq_true c1
      by_cases c2 : (s.f.data.size : Int) + sz ≤ 262144
      · have e2 : decide ((s.f.data.size : Int) + sz ≤ 262144) = true := decide_eq_true c2
        have hr : roomM fs size sz = true := by rw [Hroom.out, e1, e2]; rfl
        have Hr := Lib.hid hr
        clear hr
        go_quiet (fail)
        go_wp2
        go_ret
        exact ⟨by rw [show roomM _ _ sz = _ from Hr.out]; rfl, below_drewN HB.out _⟩
      · have e2 : decide ((s.f.data.size : Int) + sz ≤ 262144) = false := decide_eq_false c2
        have hr : roomM fs size sz = false := by rw [Hroom.out, e1, e2]; rfl
        have Hr := Lib.hid hr
        clear hr
        go_quiet (fail)
        go_wp2
        go_ret
        exact ⟨by rw [show roomM _ _ sz = _ from Hr.out]; rfl, below_drewN HB.out _⟩
    · have e1 : decide ((s.f.data.size : Int) < size) = false := decide_eq_false c1
      have hr : roomM fs size sz = false := by rw [Hroom.out, e1]; rfl
      have Hr := Lib.hid hr
      clear hr
      go_quiet (fail)
      go_wp2
      go_ret
      exact ⟨by rw [show roomM _ _ sz = _ from Hr.out]; rfl, below_drewN HB.out _⟩
end Go.Proofs.YtkhmdofeonlnpaaGreatDoor

/- SEGMENT: THE WALK OVER changed's add. -/
namespace Go.Proofs.YtkhmdofeonlnpaaGreatDoor
open Go.RowKit
set_option maxRecDepth 100000
set_option linter.unusedVariables false
set_option linter.unusedSimpArgs false
theorem doS_keep : ∀ (ss : List S) (l : L), Right l.d.files → Num l.d.fuse → Num l.d.fault → Right (doS l ss).1.d.files ∧ (doS l ss).1.size = l.size ∧ (doS l ss).1.fr = l.fr ∧ (doS l ss).1.nx = l.nx
  | [], l, hR, _, _ => ⟨hR, rfl, rfl, rfl⟩
  | s :: r, l, hR, hu, hf => by
    obtain ⟨h1, h2, h3⟩ := doo_all l.d s hu hf
    unfold doS
    split
    · obtain ⟨a, b, c, d⟩ := doS_keep r { l with d := (doo l.d s).1 } h1 h2 h3
      exact ⟨a, b, c, d⟩
    · exact ⟨h1, rfl, rfl, rfl⟩
def frB (l : L) (data : ByteArray) : ByteArray := ⟨(frameL l.nx.toNat data).toArray⟩
theorem frB_size (l : L) (data : ByteArray) : (frB l data).size = 16 + data.size := by
  show (frameL l.nx.toNat data).toArray.size = _
  rw [List.size_toArray, frameL_len]
noncomputable def lastN2 (fs : List F) : ByteArray := match lastM fs with
  | some s => s.f.name
  | none => ⟨#[]⟩
noncomputable def add1 (l : L) (data : ByteArray) : L × Int := if roomM l.d.files l.size ((frB l data).size : Int) = true then (l, 0) else doS l [⟨1, nameB l.nx.toNat, ⟨#[]⟩, 0⟩]
noncomputable def add2 (l : L) (s : ByteArray) : L × Int := if (doS l [⟨2, lastN2 l.d.files, s, 0⟩, ⟨3, lastN2 l.d.files, ⟨#[]⟩, 0⟩]).2 = 0 then ({ (doS l [⟨2, lastN2 l.d.files, s, 0⟩, ⟨3, lastN2 l.d.files, ⟨#[]⟩, 0⟩]).1 with nx := l.nx + 1 }, 0) else doS l [⟨2, lastN2 l.d.files, s, 0⟩, ⟨3, lastN2 l.d.files, ⟨#[]⟩, 0⟩]
/-- what add does -/
noncomputable def addM (l : L) (data : ByteArray) : L × Int := if (add1 l data).2 = 0 then add2 (add1 l data).1 (frB l data) else add1 l data

theorem steps1_at (w : World) (g k : Nat) (a b : ByteArray) (z : Int) (hg : g ≠ w.heap.size) :
    SAt (w.alloc (.cells #[.int .u8 (k : Int), .string a, .string b, .int .i64 z] 182)) (w.heap.size + 1) (some ⟨w.heap.size, 0, none⟩) [⟨k, a, b, z⟩] g := fun _ => by
  refine ⟨w.heap.size, 0, rfl, by omega, Ne.symm hg, fun i s hi => ?_⟩
  obtain ⟨h0, h1, h2, h3⟩ := box4' (blk_new w (.cells #[.int .u8 (k : Int), .string a, .string b, .int .i64 z] 182))
  match i, hi with
  | 0, hi => simp at hi; subst hi; exact ⟨by simp, by simp, by simp, by simp⟩
  | i + 1, hi => simp at hi
theorem steps2_at (w : World) (g : Nat) (a b c d : ByteArray) (hg : g ≠ w.heap.size) :
    SAt (w.alloc (.cells #[.int .u8 2, .string a, .string b, .int .i64 0, .int .u8 3, .string c, .string d, .int .i64 0] 182)) (w.heap.size + 1) (some ⟨w.heap.size, 0, none⟩) [⟨2, a, b, 0⟩, ⟨3, c, d, 0⟩] g := fun _ => by
  refine ⟨w.heap.size, 0, rfl, by omega, Ne.symm hg, fun i s hi => ?_⟩
  obtain ⟨h0, h1, h2, h3, h4, h5, h6, h7⟩ := box8 (blk_new w (.cells #[.int .u8 2, .string a, .string b, .int .i64 0, .int .u8 3, .string c, .string d, .int .i64 0] 182))
  match i, hi with
  | 0, hi => simp at hi; subst hi; exact ⟨by simp, by simp, by simp, by simp⟩
  | 1, hi => simp at hi; subst hi; exact ⟨by simp, by simp, by simp, by simp⟩
  | i + 2, hi => simp at hi
theorem nameB_size (n : Nat) : (nameB n).size = 16 := by
  show (nameL n).toArray.size = 16
  rw [List.size_toArray]
  exact hexL_len n 16

theorem sz_alloc (w : World) (o : Obj) : (w.alloc o).heap.size = w.heap.size + 1 := Array.size_push _
theorem Tabs.grown {w w' : World} {g : Nat} (h : Tabs w) (hg : w.grownBy w' (some g)) (h3 : 5 < g) (hs : g < w.heap.size) : Tabs w' :=
  h.low (n₀ := 6) (Nat.le_refl _) (fun k hk => hg.block k (by omega) (fun e => by injection e with e; omega)) hg.size
theorem lastV_form (fs : List F) : ∃ c1 c2 c3 b, lastV fs = .tuple #[.agg #[.string (lastN2 fs), .string c1, .int .i64 c2, .int .u64 c3], .bool b] := by
  unfold lastV lastN2
  cases lastM fs with
  | none => exact ⟨_, _, _, _, rfl⟩
  | some s => exact ⟨_, _, _, _, rfl⟩
theorem lastN2_size {fs : List F} (h : Right fs) : (lastN2 fs).size ≤ 1000000 := by
  unfold lastN2
  cases hl : lastM fs with
  | none => exact Nat.zero_le _
  | some s => exact right_names h _ (lastM_mem hl)
theorem SAt.up {w : World} {B B' no : Nat} {ad : Option Addr} {ss : List S} (h : SAt w B ad ss no) (hb : B ≤ B') : SAt w B' ad ss no := fun hne => by
  obtain ⟨g, off, e, hg, hn, hc⟩ := h hne
  exact ⟨g, off, e, by omega, hn, hc⟩
theorem LAt.nxt {w : World} {g : Nat} {ad : Option Addr} {n cap : Nat} {l : L} (h : LAt w g ad n cap l) (m : Int) : LAt (w.setCell ⟨g, 6, none⟩ (.int .u64 m)) g ad n cap { l with nx := m } :=
  ⟨heap_setCell_same w g 6 _ 117 _ h.h, ⟨(Inp.set h.d.i h.o).mono (by simp [World.setCell]), h.d.fit, h.d.u0, h.d.u1, h.d.f0, h.d.f1⟩, h.o, fun b e => (h.f b e).set _ _ _⟩

set_option maxHeartbeats 4000000 in
theorem ladd_any (w : World) (g : Nat) (ad : Option Addr) (n cap : Nat) (l : L) (data : ByteArray) (h : LAt w g ad n cap l) (hR : Right l.d.files) (hT : Tabs w) (hg3 : 5 < g) (hd : data.size ≤ 65536) (hn0 : 0 ≤ l.nx) (hn1 : l.nx < 4611686018427387904) :
    Calls Tryz.prog 155 #[.pointer (some ⟨g, 0, none⟩), .string data] w fun e w' => ∃ ad2 n2 cap2, e = .returned (.int .i64 (addM l data).2) ∧ LAt w' g ad2 n2 cap2 (addM l data).1 ∧ w.grownBy w' (some g) ∧
      ∀ b, (Value.slice ad2 n2 cap2).ownBlock = some b → (Value.slice ad n cap).ownBlock = some b ∨ w.heap.size ≤ b := by
  have HL := Lib.hid h
  have HR := Lib.hid hR
  have HT := Lib.hid hT
  clear hR hT
  obtain ⟨⟨fs, down, fuse, fault⟩, size, fr, nx, broken⟩ := l
  simp only at hn0 hn1
  obtain ⟨d0, d1, d2, d3, d4, d5, d6, d7⟩ := box8 h.h
  have hlg := (Array.getElem?_eq_some_iff.1 h.h).1
  clear h
  obtain ⟨fb, hfb⟩ : ∃ fb, frB ⟨⟨fs, down, fuse, fault⟩, size, fr, nx, broken⟩ data = fb := ⟨_, rfl⟩
  have hfz : fb.size = 16 + data.size := by rw [← hfb]; exact frB_size _ _
  have hfe : (⟨(frameL nx.toNat data).toArray⟩ : ByteArray) = fb := hfb
  have Hfb := Lib.hid hfb
  have Hfe := Lib.hid hfe
  have Hfz := Lib.hid hfz
  have hfl : (frameL nx.toNat data).length = fb.size := by rw [frameL_len, hfz]
  have Hfl := Lib.hid hfl
  clear hfz hfb hfe hfl
  go_enter Tryz.func155, Tryz.ntmps155
  go_wp2_with fail
  refine (frame_any _ nx data hn0 (by omega) (by omega) ?hT).mono ?_
  case hT => exact HT.out
  rintro e w1 ⟨rfl, hb1⟩
  have HL1 := Lib.hid (HL.out.under hb1)
  have HT1 := Lib.hid (HT.out.under hb1)
  have Hb1 := Lib.hid hb1
  clear hb1 HL HT
  go_wp2_with fail
  rw [Hfl.out]
  refine (room_any w1 g ad n cap _ _ HL1.out HR.out HT1.out (by omega) (by rw [Hfz.out]; omega)).mono ?_
  rintro e w2 ⟨rfl, hb2⟩
  have HL2 := Lib.hid (HL1.out.under hb2)
  have HT2 := Lib.hid (HT1.out.under hb2)
  have Hb2 := Lib.hid (Hb1.out.trans (hb2.mono Hb1.out.size))
  clear hb2 HL1 HT1 d0 d1 d2 d3 d4 d5 d6 d7
  obtain ⟨d0, d1, d2, d3, d4, d5, d6, d7⟩ := box8 HL2.out.h
  have hlg2 := (Array.getElem?_eq_some_iff.1 HL2.out.h).1
  by_cases hroom : roomM fs size (fb.size : Int) = true
  · rw [show roomM (_ : L).d.files _ _ = true from hroom]
    have hA : addM ⟨⟨fs, down, fuse, fault⟩, size, fr, nx, broken⟩ data = add2 ⟨⟨fs, down, fuse, fault⟩, size, fr, nx, broken⟩ fb := by
      have h1 : add1 ⟨⟨fs, down, fuse, fault⟩, size, fr, nx, broken⟩ data = (⟨⟨fs, down, fuse, fault⟩, size, fr, nx, broken⟩, 0) := by unfold add1; rw [Hfb.out]; exact if_pos hroom
      unfold addM
      rw [h1, Hfb.out]
      rfl
    have HA := Lib.hid hA
    have Hgs := Lib.hid (kd_below (kd_refl g w) Hb2.out)
    have Hos := Lib.hid (show ∀ b, (Value.slice ad n cap).ownBlock = some b → (Value.slice ad n cap).ownBlock = some b ∨ w.heap.size ≤ b from fun b hb => .inl hb)
    clear hroom hA
    go_wp2_with fail
    refine (last_any w2 g ad n cap _ HL2.out HR.out HT2.out).mono ?_
    rintro e w4 ⟨rfl, hb4⟩
    have HL4 := Lib.hid (HL2.out.under hb4)
    have HT4 := Lib.hid (HT2.out.under hb4)
    have Hg4 := Lib.hid (kd_below Hgs.out hb4)
    obtain ⟨c1, c2, c3, c4, hlv⟩ := lastV_form fs
    rw [show lastV (_ : L).d.files = _ from hlv]
    clear hlv hb4
    obtain ⟨nm, hnm⟩ : ∃ nm, lastN2 fs = nm := ⟨_, rfl⟩
    have hnz : nm.size ≤ 1000000 := by rw [← hnm]; exact lastN2_size HR.out
    rw [hnm]
    have Hnm := Lib.hid hnm
    clear hnm d0 d1 d2 d3 d4 d5 d6 d7
    obtain ⟨d0, d1, d2, d3, d4, d5, d6, d7⟩ := box8 HL4.out.h
    have hlg4 := (Array.getElem?_eq_some_iff.1 HL4.out.h).1
    go_wp2_with fail
    rw [Hfe.out]
    have hbo4 : Below w4.heap.size w4 (w4.alloc (.cells #[.string nm, .string c1, .int .i64 c2, .int .u64 c3] 178)) := (Below.refl _ w4).alloc (Nat.le_refl _) _
    have hbo5 : Below (w4.alloc (.cells #[.string nm, .string c1, .int .i64 c2, .int .u64 c3] 178)).heap.size (w4.alloc (.cells #[.string nm, .string c1, .int .i64 c2, .int .u64 c3] 178)) ((w4.alloc (.cells #[.string nm, .string c1, .int .i64 c2, .int .u64 c3] 178)).alloc (.cells #[.int .u8 2, .string nm, .string fb, .int .i64 0, .int .u8 3, .string nm, .string ⟨#[]⟩, .int .i64 0] 182)) := (Below.refl _ _).alloc (Nat.le_refl _) _
    have hsz4 : (w4.alloc (.cells #[.string nm, .string c1, .int .i64 c2, .int .u64 c3] 178)).heap.size = w4.heap.size + 1 := sz_alloc _ _
    have hsz5 : w4.heap.size + 1 + 1 = ((w4.alloc (.cells #[.string nm, .string c1, .int .i64 c2, .int .u64 c3] 178)).alloc (.cells #[.int .u8 2, .string nm, .string fb, .int .i64 0, .int .u8 3, .string nm, .string ⟨#[]⟩, .int .i64 0] 182)).heap.size := by rw [sz_alloc, sz_alloc]
    have hst := steps2_at (w4.alloc (.cells #[.string nm, .string c1, .int .i64 c2, .int .u64 c3] 178)) g nm fb nm ⟨#[]⟩ (by omega)
    rw [hsz4] at hst
    refine (ldo_any _ g ad n cap _ (some ⟨w4.heap.size + 1, 0, none⟩) 2 [⟨2, nm, fb, 0⟩, ⟨3, nm, ⟨#[]⟩, 0⟩] ((HL4.out.under hbo4).under hbo5) (hst.up (Nat.le_of_eq hsz5)) ?fit (by simp)).mono ?_
    case fit =>
      intro s hs
      simp at hs
      rcases hs with rfl | rfl
      · exact ⟨by show nm.size ≤ _; omega, by show fb.size ≤ _; rw [Hfz.out]; omega⟩
      · exact ⟨by show nm.size ≤ _; omega, Nat.zero_le _⟩
    rintro e w6 ⟨adE, nE, capE, rfl, hL6, hg6, ho6⟩
    obtain ⟨⟨⟨⟨fsE, dnE, fuE, faE⟩, szE, frE, nxE, brE⟩, cE⟩, hr⟩ : ∃ r, doS ⟨⟨fs, down, fuse, fault⟩, size, fr, nx, broken⟩ [⟨2, nm, fb, 0⟩, ⟨3, nm, ⟨#[]⟩, 0⟩] = r := ⟨_, rfl⟩
    have hkp := doS_keep [⟨2, nm, fb, 0⟩, ⟨3, nm, ⟨#[]⟩, 0⟩] ⟨⟨fs, down, fuse, fault⟩, size, fr, nx, broken⟩ HR.out ⟨HL4.out.d.u0, HL4.out.d.u1⟩ ⟨HL4.out.d.f0, HL4.out.d.f1⟩
    rw [hr] at hkp
    obtain ⟨hRE, he1, he2, he3⟩ := hkp
    simp only at he1 he2 he3 hRE
    rw [hr] at hL6
    rw [hr]
    have HLE := Lib.hid hL6
    have Hge := Lib.hid (World.grownBy.trans (kd_below (kd_below Hg4.out hbo4) hbo5) hg6)
    have Hoe := Lib.hid (show ∀ b, (Value.slice adE nE capE).ownBlock = some b → (Value.slice ad n cap).ownBlock = some b ∨ w.heap.size ≤ b from fun b hb => (ho6 b hb).elim (fun h => Hos.out b h) (fun h => .inr (by have h1 := Hg4.out.size; have h2 := hbo4.size; have h3 := hbo5.size; omega)))
    have Hr := Lib.hid hr
    clear hr hL6 hg6 ho6 hbo4 hbo5 hst hRE HL4 HT4 d0 d1 d2 d3 d4 d5 d6 d7
    obtain ⟨d0, d1, d2, d3, d4, d5, d6, d7⟩ := box8 HLE.out.h
    have f6 := frozen_of_row w6 g 6 _ 117 HLE.out.h
    have hlg6 := (Array.getElem?_eq_some_iff.1 HLE.out.h).1
    by_cases hcE : cE = 0
    · have hB : add2 ⟨⟨fs, down, fuse, fault⟩, size, fr, nx, broken⟩ fb = (⟨⟨fsE, dnE, fuE, faE⟩, szE, frE, nx + 1, brE⟩, 0) := by
        unfold add2
        rw [Hnm.out, Hr.out]
        exact if_pos hcE
      have HB := Lib.hid hB
      subst hcE
      subst he3
      have hwr : IntKind.u64.wrap (nxE + 1) = nxE + 1 := IntWalk.u64_in _ (by omega)
      have HN := Lib.hid (HLE.out.nxt (nxE + 1))
      have Hgn := Lib.hid (kd_set (o := 6) Hge.out (.int .u64 (nxE + 1)))
      clear hB
      go_wp2
      exact bodyPost_ret (v := .int .i64 0) (by simp [results, Tryz.results155, go_sem]) rfl ⟨adE, nE, capE, by rw [HA.out, HB.out], by rw [HA.out, HB.out]; exact HN.out, Hgn.out, Hoe.out⟩
    · have hB : add2 ⟨⟨fs, down, fuse, fault⟩, size, fr, nx, broken⟩ fb = (⟨⟨fsE, dnE, fuE, faE⟩, szE, frE, nxE, brE⟩, cE) := by
        unfold add2
        rw [Hnm.out, Hr.out]
        exact if_neg hcE
      have HB := Lib.hid hB
      have hc2 : (cE == 0) = false := by simp [hcE]
      clear hB
      go_wp2
      exact bodyPost_ret (v := .int .i64 cE) (by simp [results, Tryz.results155, go_sem]) rfl ⟨adE, nE, capE, by rw [HA.out, HB.out], by rw [HA.out, HB.out]; exact HLE.out, Hge.out, Hoe.out⟩
  · have hro : roomM fs size (fb.size : Int) = false := by simpa using hroom
    rw [show roomM (_ : L).d.files _ _ = false from hro]
    have Hroom := Lib.hid hro
    clear hroom hro
    go_wp2_with fail
    refine (name_any w2 nx hn0 (by omega)).mono ?_
    rintro e w3 ⟨rfl, hb3⟩
    have HL3 := Lib.hid (HL2.out.under hb3)
    have HT3 := Lib.hid (HT2.out.under hb3)
    have Hb3 := Lib.hid (Hb2.out.trans (hb3.mono Hb2.out.size))
    clear hb3 HL2 HT2 d0 d1 d2 d3 d4 d5 d6 d7
    obtain ⟨d0, d1, d2, d3, d4, d5, d6, d7⟩ := box8 HL3.out.h
    have hlg3 := (Array.getElem?_eq_some_iff.1 HL3.out.h).1
    go_wp2_with fail
    have hbo : Below w3.heap.size w3 (w3.alloc (.cells #[.int .u8 (1 : Nat), .string (nameB nx.toNat), .string ⟨#[]⟩, .int .i64 0] 182)) := (Below.refl _ w3).alloc (Nat.le_refl _) _
    refine (ldo_any _ g ad n cap _ (some ⟨w3.heap.size, 0, none⟩) 1 [⟨1, nameB nx.toNat, ⟨#[]⟩, 0⟩] (HL3.out.under hbo) ((steps1_at w3 g 1 _ _ 0 (by omega)).up (Nat.le_of_eq (sz_alloc _ _).symm)) ?fit (by simp)).mono ?_
    case fit =>
      intro s hs
      simp at hs
      subst hs
      exact ⟨by rw [nameB_size]; omega, Nat.zero_le _⟩
    rintro e w5 ⟨adS, nS, capS, rfl, hL5, hg5, ho5⟩
    obtain ⟨⟨⟨⟨fsS, dnS, fuS, faS⟩, szS, frS, nxS, brS⟩, cS⟩, hr⟩ : ∃ r, doS ⟨⟨fs, down, fuse, fault⟩, size, fr, nx, broken⟩ [⟨1, nameB nx.toNat, ⟨#[]⟩, 0⟩] = r := ⟨_, rfl⟩
    have hkp := doS_keep [⟨1, nameB nx.toNat, ⟨#[]⟩, 0⟩] ⟨⟨fs, down, fuse, fault⟩, size, fr, nx, broken⟩ HR.out ⟨HL3.out.d.u0, HL3.out.d.u1⟩ ⟨HL3.out.d.f0, HL3.out.d.f1⟩
    rw [hr] at hkp
    obtain ⟨hRS, he1, he2, he3⟩ := hkp
    simp only at he1 he2 he3 hRS
    subst he1 he2 he3
    rw [hr] at hL5
    rw [hr]
    have HLS := Lib.hid hL5
    have HRS := Lib.hid hRS
    have HTS := Lib.hid (Tabs.grown (HT3.out.under hbo) hg5 hg3 (by rw [sz_alloc]; omega))
    have Hgs := Lib.hid (World.grownBy.trans (kd_below (kd_refl g w) (Hb3.out.trans (hbo.mono Hb3.out.size))) hg5)
    have Hos := Lib.hid (show ∀ b, (Value.slice adS nS capS).ownBlock = some b → (Value.slice ad n cap).ownBlock = some b ∨ w.heap.size ≤ b from fun b hb => (ho5 b hb).imp id (fun h => by have h1 := Hb3.out.size; have h2 := hbo.size; omega))
    have hA1 : add1 ⟨⟨fs, down, fuse, fault⟩, szS, frS, nxS, broken⟩ data = (⟨⟨fsS, dnS, fuS, faS⟩, szS, frS, nxS, brS⟩, cS) := by unfold add1; rw [Hfb.out, ← hr]; exact if_neg (by show ¬ roomM fs szS (fb.size : Int) = true; rw [Hroom.out]; simp)
    clear hr hL5 hRS hg5 ho5 hbo d0 d1 d2 d3 d4 d5 d6 d7
    by_cases hc0 : cS = 0
    · subst hc0
      have hA : addM ⟨⟨fs, down, fuse, fault⟩, szS, frS, nxS, broken⟩ data = add2 ⟨⟨fsS, dnS, fuS, faS⟩, szS, frS, nxS, brS⟩ fb := by
        unfold addM
        rw [hA1, Hfb.out]
        rfl
      have HA := Lib.hid hA
      clear hA hA1
      go_wp2_with fail
      refine (last_any w5 g adS nS capS _ HLS.out HRS.out HTS.out).mono ?_
      rintro e w4 ⟨rfl, hb4⟩
      have HL4 := Lib.hid (HLS.out.under hb4)
      have HT4 := Lib.hid (HTS.out.under hb4)
      have Hg4 := Lib.hid (kd_below Hgs.out hb4)
      obtain ⟨c1, c2, c3, c4, hlv⟩ := lastV_form fsS
      rw [show lastV (_ : L).d.files = _ from hlv]
      clear hlv hb4
      obtain ⟨nm, hnm⟩ : ∃ nm, lastN2 fsS = nm := ⟨_, rfl⟩
      have hnz : nm.size ≤ 1000000 := by rw [← hnm]; exact lastN2_size HRS.out
      rw [hnm]
      have Hnm := Lib.hid hnm
      clear hnm
      obtain ⟨d0, d1, d2, d3, d4, d5, d6, d7⟩ := box8 HL4.out.h
      have hlg4 := (Array.getElem?_eq_some_iff.1 HL4.out.h).1
      go_wp2_with fail
      rw [Hfe.out]
      have hbo4 : Below w4.heap.size w4 (w4.alloc (.cells #[.string nm, .string c1, .int .i64 c2, .int .u64 c3] 178)) := (Below.refl _ w4).alloc (Nat.le_refl _) _
      have hbo5 : Below (w4.alloc (.cells #[.string nm, .string c1, .int .i64 c2, .int .u64 c3] 178)).heap.size (w4.alloc (.cells #[.string nm, .string c1, .int .i64 c2, .int .u64 c3] 178)) ((w4.alloc (.cells #[.string nm, .string c1, .int .i64 c2, .int .u64 c3] 178)).alloc (.cells #[.int .u8 2, .string nm, .string fb, .int .i64 0, .int .u8 3, .string nm, .string ⟨#[]⟩, .int .i64 0] 182)) := (Below.refl _ _).alloc (Nat.le_refl _) _
      have hsz4 : (w4.alloc (.cells #[.string nm, .string c1, .int .i64 c2, .int .u64 c3] 178)).heap.size = w4.heap.size + 1 := sz_alloc _ _
      have hsz5 : w4.heap.size + 1 + 1 = ((w4.alloc (.cells #[.string nm, .string c1, .int .i64 c2, .int .u64 c3] 178)).alloc (.cells #[.int .u8 2, .string nm, .string fb, .int .i64 0, .int .u8 3, .string nm, .string ⟨#[]⟩, .int .i64 0] 182)).heap.size := by rw [sz_alloc, sz_alloc]
      have hst := steps2_at (w4.alloc (.cells #[.string nm, .string c1, .int .i64 c2, .int .u64 c3] 178)) g nm fb nm ⟨#[]⟩ (by omega)
      rw [hsz4] at hst
      refine (ldo_any _ g adS nS capS _ (some ⟨w4.heap.size + 1, 0, none⟩) 2 [⟨2, nm, fb, 0⟩, ⟨3, nm, ⟨#[]⟩, 0⟩] ((HL4.out.under hbo4).under hbo5) (hst.up (Nat.le_of_eq hsz5)) ?fit (by simp)).mono ?_
      case fit =>
        intro s hs
        simp at hs
        rcases hs with rfl | rfl
        · exact ⟨by show nm.size ≤ _; omega, by show fb.size ≤ _; rw [Hfz.out]; omega⟩
        · exact ⟨by show nm.size ≤ _; omega, Nat.zero_le _⟩
      rintro e w6 ⟨adE, nE, capE, rfl, hL6, hg6, ho6⟩
      obtain ⟨⟨⟨⟨fsE, dnE, fuE, faE⟩, szE, frE, nxE, brE⟩, cE⟩, hr⟩ : ∃ r, doS ⟨⟨fsS, dnS, fuS, faS⟩, szS, frS, nxS, brS⟩ [⟨2, nm, fb, 0⟩, ⟨3, nm, ⟨#[]⟩, 0⟩] = r := ⟨_, rfl⟩
      have hkp := doS_keep [⟨2, nm, fb, 0⟩, ⟨3, nm, ⟨#[]⟩, 0⟩] ⟨⟨fsS, dnS, fuS, faS⟩, szS, frS, nxS, brS⟩ HRS.out ⟨HL4.out.d.u0, HL4.out.d.u1⟩ ⟨HL4.out.d.f0, HL4.out.d.f1⟩
      rw [hr] at hkp
      obtain ⟨hRE, he1, he2, he3⟩ := hkp
      simp only at he1 he2 he3 hRE
      rw [hr] at hL6
      rw [hr]
      have HLE := Lib.hid hL6
      have Hge := Lib.hid (World.grownBy.trans (kd_below (kd_below Hg4.out hbo4) hbo5) hg6)
      have Hoe := Lib.hid (show ∀ b, (Value.slice adE nE capE).ownBlock = some b → (Value.slice ad n cap).ownBlock = some b ∨ w.heap.size ≤ b from fun b hb => (ho6 b hb).elim (fun h => Hos.out b h) (fun h => .inr (by have h1 := Hg4.out.size; have h2 := hbo4.size; have h3 := hbo5.size; omega)))
      have Hr := Lib.hid hr
      clear hr hL6 hg6 ho6 hbo4 hbo5 hst hRE HL4 HT4 d0 d1 d2 d3 d4 d5 d6 d7
      obtain ⟨d0, d1, d2, d3, d4, d5, d6, d7⟩ := box8 HLE.out.h
      have f6 := frozen_of_row w6 g 6 _ 117 HLE.out.h
      have hlg6 := (Array.getElem?_eq_some_iff.1 HLE.out.h).1
      by_cases hcE : cE = 0
      · have hB : add2 ⟨⟨fsS, dnS, fuS, faS⟩, szS, frS, nxS, brS⟩ fb = (⟨⟨fsE, dnE, fuE, faE⟩, szE, frE, nxS + 1, brE⟩, 0) := by
          unfold add2
          rw [Hnm.out, Hr.out]
          exact if_pos hcE
        have HB := Lib.hid hB
        subst hcE
        subst he3
        have hwr : IntKind.u64.wrap (nxE + 1) = nxE + 1 := IntWalk.u64_in _ (by omega)
        have HN := Lib.hid (HLE.out.nxt (nxE + 1))
        have Hgn := Lib.hid (kd_set (o := 6) Hge.out (.int .u64 (nxE + 1)))
        clear hB
        go_wp2
        exact bodyPost_ret (v := .int .i64 0) (by simp [results, Tryz.results155, go_sem]) rfl ⟨adE, nE, capE, by rw [HA.out, HB.out], by rw [HA.out, HB.out]; exact HN.out, Hgn.out, Hoe.out⟩
      · have hB : add2 ⟨⟨fsS, dnS, fuS, faS⟩, szS, frS, nxS, brS⟩ fb = (⟨⟨fsE, dnE, fuE, faE⟩, szE, frE, nxE, brE⟩, cE) := by
          unfold add2
          rw [Hnm.out, Hr.out]
          exact if_neg hcE
        have HB := Lib.hid hB
        have hc2 : (cE == 0) = false := by simp [hcE]
        clear hB
        go_wp2
        exact bodyPost_ret (v := .int .i64 cE) (by simp [results, Tryz.results155, go_sem]) rfl ⟨adE, nE, capE, by rw [HA.out, HB.out], by rw [HA.out, HB.out]; exact HLE.out, Hge.out, Hoe.out⟩
    · have hA : addM ⟨⟨fs, down, fuse, fault⟩, szS, frS, nxS, broken⟩ data = (⟨⟨fsS, dnS, fuS, faS⟩, szS, frS, nxS, brS⟩, cS) := by
        unfold addM
        rw [hA1]
        exact if_neg hc0
      have HA := Lib.hid hA
      have hc1 : (cS != 0) = true := by simp [hc0]
      have hc2 : (cS == 0) = false := by simp [hc0]
      clear hA hA1 hc0
      go_wp2
      exact bodyPost_ret (v := .int .i64 cS) (by simp [results, Tryz.results155, go_sem]) rfl ⟨adS, nS, capS, by rw [HA.out], by rw [HA.out]; exact HLS.out, Hgs.out, Hos.out⟩
end Go.Proofs.YtkhmdofeonlnpaaGreatDoor

/- SEGMENT: THE WALK OVER changed's drop. -/
namespace Go.Proofs.YtkhmdofeonlnpaaGreatDoor
open Go.RowKit
set_option maxRecDepth 100000
set_option linter.unusedVariables false
set_option linter.unusedSimpArgs false
theorem Tryz.info182s : (Tryz.prog.info? 182).map (fun i => (i.zero, i.size, i.bytes)) = some (some (.agg #[.int .u8 0, .string ⟨#[]⟩, .string ⟨#[]⟩, .int .i64 0]), 4, 48) := by kernel_rfl
theorem Tryz.under68s : Tryz.prog.underlying 111 = some (.slice 182) := by kernel_rfl
/-- the step that takes a file away -/
abbrev rmS (s : SF) : S := ⟨5, s.f.name, ⟨#[]⟩, 0⟩
abbrev stp (s : S) : List Value := [.int .u8 (s.kind : Int), .string s.name, .string s.data, .int .i64 s.size]
def stc (l : List S) : List Value := l.flatMap stp
theorem stc_snoc (l : List S) (s : S) : stc (l ++ [s]) = stc l ++ stp s := by simp [stc]
theorem stc_len (l : List S) : (stc l).length = l.length * 4 := by
  induction l with
  | nil => rfl
  | cons s l ih => rw [stc, List.flatMap_cons, List.length_append]; rw [stc] at ih; rw [ih]; simp; omega
theorem stc_at : ∀ (l : List S) (i : Nat) (s : S), l[i]? = some s → ∀ j, j < 4 → (stc l)[i * 4 + j]? = (stp s)[j]?
  | [], i, s, h => by simp at h
  | x :: l, 0, s, h => by
    simp at h
    subst h
    intro j hj
    rw [stc, List.flatMap_cons, Nat.zero_mul, Nat.zero_add, List.getElem?_append_left (by simpa using hj)]
  | x :: l, i + 1, s, h => by
    intro j hj
    have := stc_at l i s (by simpa using h) j hj
    rw [stc, List.flatMap_cons, List.getElem?_append_right (by simp; omega)]
    rw [stc] at this
    rw [← this]
    congr 1
    simp
    omega
def TRow (w : World) (base : Nat) (v : Value) (l : List S) : Prop := w.ownsRow base 182 4 v l.length (stc l)
theorem TRow.under {w w' : World} {base : Nat} {v : Value} {l : List S} (h : TRow w base v l) (hb : Below w.heap.size w w') : TRow w' base v l :=
  World.ownsRow.kept (row := none) h ⟨hb.os, hb.tape, hb.output, hb.size, fun k hk _ => hb.block k hk⟩ (by cases v.ownBlock <;> simp)
/-- the row's form, and its steps -/
theorem TRow.form {w : World} {base : Nat} {v : Value} {l : List S} (h : TRow w base v l) (no : Nat) (hno : no < base) : ∃ ad cap, v = .slice ad l.length cap ∧ SAt w w.heap.size ad l no := by
  rcases h.2 with ⟨hv, hn⟩ | ⟨g, cap, cur, hv, hb, hg, hnc, _⟩
  · exact ⟨none, 0, by rw [hv, hn], fun hne => absurd (List.eq_nil_of_length_eq_zero hn) hne⟩
  · refine ⟨_, cap, hv, fun hne => ⟨g, 0, rfl, (Array.getElem?_eq_some_iff.1 hg).1, by omega, fun i s hi => ?_⟩⟩
    have hc : ∀ j u, (stc l)[j]? = some u → w.cell? ⟨g, j, none⟩ = some u := fun j u hu => by
      have := World.ownsRow.cells h (g := g) (by rw [hv]; rfl) j u hu
      simpa [Addr.add_lit] using this
    have ha := stc_at l i s hi
    refine ⟨?_, ?_, ?_, ?_⟩
    · rw [Nat.zero_add]; exact hc _ _ (by have := ha 0 (by omega); simpa using this)
    · rw [Nat.zero_add]; exact hc _ _ (by rw [ha 1 (by omega)]; rfl)
    · rw [Nat.zero_add]; exact hc _ _ (by rw [ha 2 (by omega)]; rfl)
    · rw [Nat.zero_add]; exact hc _ _ (by rw [ha 3 (by omega)]; rfl)
theorem app_step (X : World) (base : Nat) (v : Value) (l : List S) (s : S) (hb : base ≤ X.heap.size) (hrow : TRow X base v l) (hn : l.length ≤ 1000000) :
    ∃ v' w', (Builtin.append_ #[111, 111] 111 #[v, .slice (some ⟨X.heap.size, 0, none⟩) 1 1]).run Tryz.prog (X.alloc (.cells (stp s).toArray 182)) = .ok v' w' ∧ TRow w' base v' (l ++ [s]) ∧ (X.alloc (.cells (stp s).toArray 182)).grownBy w' v.ownBlock := by
  obtain ⟨i0, hi, hz0, hz1, hz2⟩ := info_parts Tryz.info182s
  have hblk := blk_new X (.cells (stp s).toArray 182)
  have hcell : ∀ j u, (stp s)[j]? = some u → (X.alloc (.cells (stp s).toArray 182)).cell? ((⟨X.heap.size, 0, none⟩ : Addr).add j) = some u := fun j u hj => by
    have h0 := cell_of_row _ X.heap.size j _ 182 (0, 0) hblk
    rw [Addr.add_lit, Nat.zero_add, h0]
    simpa using hj
  obtain ⟨v', w', hr, ho, hg, _, hob⟩ := run_append_own_at (P := Tryz.prog) (X.alloc (.cells (stp s).toArray 182)) base 111 111 182 i0 _ 4 48 Tryz.under68s hi hz0 hz1 hz2 rfl (by decide) v l.length _ (World.ownsRow.alloc hrow _) ⟨X.heap.size, 0, none⟩ 1 1 (stp s) (by simp) hcell (fun u hu => by
    simp only [List.mem_cons, List.not_mem_nil, or_false] at hu
    rcases hu with rfl | rfl | rfl | rfl <;> rfl) (by simp [maxLen]; omega) (by omega) (by simp; omega)
  refine ⟨v', w', hr, ?_, hg⟩
  unfold TRow
  rw [stc_snoc, List.length_append]
  exact ho
/-- so many files lie ahead of seq -/
def cutN : List SF → Int → Nat
  | _ :: s2 :: r, q => if (s2.n : Int) ≤ q then cutN (s2 :: r) q + 1 else 0
  | _, _ => 0
noncomputable def dropS (l : L) (q : Int) : L × Int := doS l (((filesM l.d.files).take (cutN (filesM l.d.files) q)).map rmS)
noncomputable def dropM (l : L) (q : Int) : L × Int := if (dropS l q).2 = 0 then (match (filesM l.d.files)[cutN (filesM l.d.files) q]? with
    | some s => { (dropS l q).1 with fr := (s.n : Int) }
    | none => (dropS l q).1, 0) else dropS l q
theorem LAt.frm {w : World} {g : Nat} {ad : Option Addr} {n cap : Nat} {l : L} (h : LAt w g ad n cap l) (m : Int) : LAt (w.setCell ⟨g, 5, none⟩ (.int .u64 m)) g ad n cap { l with fr := m } :=
  ⟨heap_setCell_same w g 5 _ 117 _ h.h, ⟨(Inp.set h.d.i h.o).mono (by simp [World.setCell]), h.d.fit, h.d.u0, h.d.u1, h.d.f0, h.d.f1⟩, h.o, fun b e => (h.f b e).set _ _ _⟩
theorem cutN_step {l : List SF} {k : Nat} {s : SF} {q : Int} (h : l[k + 1]? = some s) : cutN (l.drop k) q = if (s.n : Int) ≤ q then cutN (l.drop (k + 1)) q + 1 else 0 := by
  have hk1 : k + 1 < l.length := (List.getElem?_eq_some_iff.1 h).1
  have he : l[k + 1] = s := (List.getElem?_eq_some_iff.1 h).2
  rw [List.drop_eq_getElem_cons (show k < l.length by omega), List.drop_eq_getElem_cons hk1, he]
  rfl
theorem cutN_end {l : List SF} {k : Nat} {q : Int} (h : l.length ≤ k + 1) : cutN (l.drop k) q = 0 := by
  have hl : (l.drop k).length ≤ 1 := by rw [List.length_drop]; omega
  match l.drop k, hl with
  | [], _ => rfl
  | [x], _ => rfl
  | _ :: _ :: _, hl => simp at hl

def lenOfV : Value → Nat
  | .slice _ n _ => n
  | _ => 0

set_option maxHeartbeats 4000000 in
theorem ldrop_any (w : World) (g : Nat) (ad : Option Addr) (n cap : Nat) (l : L) (q : Int) (h : LAt w g ad n cap l) (hR : Right l.d.files) (hT : Tabs w) (hg3 : 5 < g) (hq0 : 0 ≤ q) (hq1 : q ≤ 18446744073709551615) :
    Calls Tryz.prog 157 #[.pointer (some ⟨g, 0, none⟩), .int .u64 q] w fun e w' => ∃ ad2 n2 cap2, e = .returned (.int .i64 (dropM l q).2) ∧ LAt w' g ad2 n2 cap2 (dropM l q).1 ∧ w.grownBy w' (some g) ∧
      ∀ b, (Value.slice ad2 n2 cap2).ownBlock = some b → (Value.slice ad n cap).ownBlock = some b ∨ w.heap.size ≤ b := by
  have HL := Lib.hid h
  have HR := Lib.hid hR
  have HT := Lib.hid hT
  clear hR hT
  obtain ⟨⟨fs, down, fuse, fault⟩, size, fr, nx, broken⟩ := l
  have h64 : n ≤ 1000 := by have := h.d.i.1; have := HR.out.1; simp only at *; omega
  have hfn : (filesM fs).length ≤ 1000 := by have h1 := filesM_len fs; have h2 := h.d.i.1; simp only at h2; omega
  obtain ⟨d0, d1, d2, d3, d4, d5, d6, d7⟩ := box8 h.h
  have hlg := (Array.getElem?_eq_some_iff.1 h.h).1
  clear h
  go_enter Tryz.func157, Tryz.ntmps157
  go_wp2_with fail
  refine (files_any w ad n cap down fuse fault fs HL.out.d.i h64 (right_names HR.out) HT.out).mono ?_
  rintro e w1 ⟨v, rfl, hrow, hb1⟩
  have HL1 := Lib.hid (HL.out.under hb1)
  have Hb1 := Lib.hid hb1
  have hlg1 := (Array.getElem?_eq_some_iff.1 HL1.out.h).1
  clear HL HT hb1 d0 d1 d2 d3 d4 d5 d6 d7
  obtain ⟨fl, hfl⟩ : ∃ fl, filesM fs = fl := ⟨_, rfl⟩
  rw [hfl] at hrow hfn
  have Hfl := Lib.hid hfl
  clear hfl
  obtain ⟨m, hm⟩ : ∃ m, fl.length = m := ⟨_, rfl⟩
  rw [hm] at hfn
  obtain ⟨gF, capF, ad0, cap0, hv, hF⟩ : ∃ gF capF ad0 cap0, v = .slice ad0 m cap0 ∧ (fl ≠ [] → ad0 = some ⟨gF, 0, none⟩ ∧ cap0 = capF ∧ gF < w1.heap.size ∧ m ≤ capF ∧ WAt w1 gF 0 fl ∧ gF ≠ g) := by
    by_cases hne : fl = []
    · obtain ⟨ad0, cap0, hv⟩ := hrow.form
      exact ⟨0, 0, ad0, cap0, by rw [hv, hm], fun h => absurd hne h⟩
    · obtain ⟨g2, cap2, hv, hbg, hg2, hcap, hat⟩ := hrow.place hne
      exact ⟨g2, cap2, _, _, by rw [hv, hm], fun _ => ⟨rfl, rfl, hg2, by omega, hat, by omega⟩⟩
  subst hv
  have HF := Lib.hid hF
  have Hm := Lib.hid hm
  clear hF hm hrow
  go_wp2
  go_loopw [5, 6] (fun a b wr => ∃ (k : Nat) (adk : Option Addr) (capk : Nat), k ≤ m ∧ a = .slice adk (m - k) capk ∧ (fl ≠ [] → adk = some ⟨gF, k * 4, none⟩ ∧ capk = capF - k) ∧ TRow wr w1.heap.size b ((fl.take k).map rmS) ∧ Below w1.heap.size w1 wr ∧ cutN fl q = k + cutN (fl.drop k) q) (fun a _ _ => lenOfV a)
  case atStart => exact ⟨0, ad0, cap0, Nat.zero_le _, by rw [Nat.sub_zero], fun hne => ⟨(HF.out hne).1, by rw [(HF.out hne).2.1, Nat.sub_zero]⟩, World.ownsRow_nil _ _ _ _, Below.refl _ _, by simp⟩
  case round =>
    obtain ⟨k, adk, capk, hk, rfl, had, htr, hbel, hcut⟩ := hrel
    obtain ⟨p, hp⟩ : ∃ p, m - k = p := ⟨_, rfl⟩
    rw [hp]
    have HLr := Lib.hid (HL1.out.under hbel)
    have Had := Lib.hid had
    have Htr := Lib.hid htr
    have Hbel := Lib.hid hbel
    have Hcut := Lib.hid hcut
    have hrl : ((fl.take k).map rmS).length = k := by rw [List.length_map, List.length_take]; have := Hm.out; omega
    have Hrl := Lib.hid hrl
    have hlgr := (Array.getElem?_eq_some_iff.1 HLr.out.h).1
    clear had htr hbel hcut hrl
    by_cases hp1 : p ≤ 1
    · have hck : cutN fl q = k := by rw [Hcut.out, cutN_end (by have := Hm.out; omega)]; omega
      have Hck := Lib.hid hck
      have hpI : ¬ (1 : Int) < (p : Int) := by omega
      clear hck
      obtain ⟨ads, caps, rfl, hsat⟩ := Htr.out.form g hlg1
      rw [Hrl.out]
      have Hsat := Lib.hid hsat
      clear hsat
      go_wp2_with fail
      have hfit : ∀ s ∈ (fl.take k).map rmS, SFit s := fun s hs => by
        obtain ⟨x, hx, rfl⟩ := List.mem_map.1 hs
        have hm2 := List.mem_of_mem_take hx
        rw [← Hfl.out] at hm2
        unfold filesM at hm2
        obtain ⟨f, hf, hs2⟩ := List.mem_flatMap.1 hm2
        have hxf : x.f = f := by
          unfold sf1 at hs2
          split at hs2
          · simp at hs2; subst hs2; rfl
          · cases hs2
        exact ⟨by show x.f.name.size ≤ _; rw [hxf]; have := right_names HR.out f hf; omega, Nat.zero_le _⟩
      have hldo := ldo_any wr g ad n cap _ ads caps _ HLr.out Hsat.out hfit (by rw [Hrl.out]; omega)
      rw [Hrl.out] at hldo
      refine hldo.mono ?_
      clear hldo hfit
      rintro e w5 ⟨adE, nE, capE, rfl, hL5, hg5, ho5⟩
      obtain ⟨⟨⟨⟨fsE, dnE, fuE, faE⟩, szE, frE, nxE, brE⟩, cE⟩, hr⟩ : ∃ r, dropS ⟨⟨fs, down, fuse, fault⟩, size, fr, nx, broken⟩ q = r := ⟨_, rfl⟩
      have hr2 : doS ⟨⟨fs, down, fuse, fault⟩, size, fr, nx, broken⟩ ((fl.take k).map rmS) = (⟨⟨fsE, dnE, fuE, faE⟩, szE, frE, nxE, brE⟩, cE) := by
        rw [← hr]
        unfold dropS
        rw [Hfl.out, Hck.out]
      rw [hr2] at hL5 ⊢
      have HLE := Lib.hid hL5
      have Hge := Lib.hid (World.grownBy.trans (kd_below (kd_below (kd_refl g w) Hb1.out) Hbel.out) hg5)
      have Hoe := Lib.hid (show ∀ b, (Value.slice adE nE capE).ownBlock = some b → (Value.slice ad n cap).ownBlock = some b ∨ w.heap.size ≤ b from fun b hb => (ho5 b hb).imp id (fun h => by have h1 := Hb1.out.size; have h2 := Hbel.out.size; omega))
      have Hr := Lib.hid hr
      have Hgr5 := Lib.hid hg5
      clear hr hr2 hL5 ho5
      by_cases hcE : cE = 0
      · subst hcE
        rcases (show p = 0 ∨ p = 1 by omega) with rfl | rfl
        ·
          have hB : dropM ⟨⟨fs, down, fuse, fault⟩, size, fr, nx, broken⟩ q = (⟨⟨fsE, dnE, fuE, faE⟩, szE, frE, nxE, brE⟩, 0) := by
            unfold dropM
            rw [Hr.out, Hfl.out, Hck.out, List.getElem?_eq_none (by have := Hm.out; omega)]
            rfl
          have HB := Lib.hid hB
          clear hB
          go_wp2
          exact bodyPost_ret (v := .int .i64 0) (by simp [results, Tryz.results157, go_sem]) rfl ⟨adE, nE, capE, by rw [HB.out], by rw [HB.out]; exact HLE.out, Hge.out, Hoe.out⟩
        · have hne : fl ≠ [] := by rintro rfl; have := Hm.out; simp at this; omega
          obtain ⟨rfl, hck0⟩ := Had.out hne
          obtain ⟨hA0, hC0, hgF, hmc, hat, HFg⟩ := HF.out hne
          obtain ⟨s0, hs0⟩ : ∃ s, fl[k]? = some s := ⟨fl[k]'(by have := Hm.out; omega), by simp⟩
          have Hs0 := Lib.hid hs0
          obtain ⟨a0, a1, a2, a3⟩ := hat k s0 hs0
          rw [Nat.zero_add, ← World.cell?_of_block (Hbel.out.block _ hgF)] at a3
          have hgFr : gF < wr.heap.size := Nat.lt_of_lt_of_le hgF Hbel.out.size
          clear hat hs0 hne hck0 a0 a1 a2 hA0 hC0
          have hB : dropM ⟨⟨fs, down, fuse, fault⟩, size, fr, nx, broken⟩ q = (⟨⟨fsE, dnE, fuE, faE⟩, szE, (s0.n : Int), nxE, brE⟩, 0) := by
            unfold dropM
            rw [Hr.out, Hfl.out, Hck.out, Hs0.out]
            rfl
          have HB := Lib.hid hB
          have HN := Lib.hid (HLE.out.frm (s0.n : Int))
          have Hgn := Lib.hid (kd_set (o := 5) Hge.out (.int .u64 (s0.n : Int)))
          obtain ⟨d0, d1, d2, d3, d4, d5, d6, d7⟩ := box8 HLE.out.h
          have f5 := frozen_of_row w5 g 5 _ 117 HLE.out.h
          have hlgE := (Array.getElem?_eq_some_iff.1 HLE.out.h).1
          have hgne : gF ≠ g := HFg
          have hc5 : w5.cell? ⟨gF, k * 4 + 3, none⟩ = some (.int .u64 (s0.n : Int)) := (World.cell?_of_block (Hgr5.out.block gF hgFr (fun e => hgne (by injection e)))).trans a3
          have hgF5 : gF < w5.heap.size := Nat.lt_of_lt_of_le hgFr Hgr5.out.size
          clear hB
          go_wp2
          exact bodyPost_ret (v := .int .i64 0) (by simp [results, Tryz.results157, go_sem]) rfl ⟨adE, nE, capE, by rw [HB.out], by rw [HB.out]; exact HN.out, Hgn.out, Hoe.out⟩
      · have hB : dropM ⟨⟨fs, down, fuse, fault⟩, size, fr, nx, broken⟩ q = (⟨⟨fsE, dnE, fuE, faE⟩, szE, frE, nxE, brE⟩, cE) := by
          unfold dropM
          rw [Hr.out]
          exact if_neg hcE
        have HB := Lib.hid hB
        have hc1 : (cE != 0) = true := by simp [hcE]
        clear hB hcE
        go_wp2
        exact bodyPost_ret (v := .int .i64 cE) (by simp [results, Tryz.results157, go_sem]) rfl ⟨adE, nE, capE, by rw [HB.out], by rw [HB.out]; exact HLE.out, Hge.out, Hoe.out⟩
    · obtain ⟨p2, rfl⟩ : ∃ p2, p = p2 + 2 := ⟨p - 2, by omega⟩
      have hpI : (1 : Int) < ((p2 + 2 : Nat) : Int) := by omega
      have hne : fl ≠ [] := by rintro rfl; have := Hm.out; simp at this; omega
      obtain ⟨rfl, hck0⟩ := Had.out hne
      obtain ⟨hA0, hC0, hgF, hmc, hat, HFg⟩ := HF.out hne
      obtain ⟨c, rfl⟩ : ∃ c, capk = c + 2 := ⟨capk - 2, by omega⟩
      have Hck0 := Lib.hid hck0
      clear hck0
      obtain ⟨s0, hs0⟩ : ∃ s, fl[k]? = some s := ⟨fl[k]'(by have := Hm.out; omega), by simp⟩
      obtain ⟨s1, hs1⟩ : ∃ s, fl[k + 1]? = some s := ⟨fl[k + 1]'(by have := Hm.out; omega), by simp⟩
      have hcell : ∀ o, wr.cell? ⟨gF, o, none⟩ = w1.cell? ⟨gF, o, none⟩ := fun o => World.cell?_of_block (Hbel.out.block _ hgF)
      obtain ⟨a0, a1, a2, a3⟩ := hat k s0 hs0
      obtain ⟨b0, b1, b2, b3⟩ := hat (k + 1) s1 hs1
      rw [Nat.zero_add, ← hcell] at a0 a1 a2 a3
      rw [Nat.zero_add, ← hcell] at b0 b1 b2 b3
      rw [Nat.add_mul, Nat.one_mul] at b0 b1 b2 b3
      have Hstep := Lib.hid (cutN_step (q := q) hs1)
      have htk : (fl.take (k + 1)).map rmS = (fl.take k).map rmS ++ [rmS s0] := by rw [List.take_add_one, hs0]; simp
      have Htk := Lib.hid htk
      have Hs0 := Lib.hid hs0
      have hgFr : gF < wr.heap.size := Nat.lt_of_lt_of_le hgF Hbel.out.size
      have hcm : 2 ≤ c + 2 := by omega
      clear hat hcell hs1 htk hne hs0 hA0 hC0
      by_cases hle : (s1.n : Int) ≤ q
      · have hc2 : cutN fl q = (k + 1) + cutN (fl.drop (k + 1)) q := by rw [Hcut.out, Hstep.out, if_pos hle]; omega
        have Hc2 := Lib.hid hc2
        clear hc2
        go_wp2_with fail
        refine (removal_any wr s0).mono ?_
        rintro e w2 ⟨rfl, hb2⟩
        have hlow : w1.heap.size ≤ w2.heap.size := Nat.le_trans Hbel.out.size hb2.size
        obtain ⟨v3, w3, hr3, hrow3, hg3'⟩ := app_step w2 w1.heap.size u6 ((fl.take k).map rmS) (rmS s0) hlow (Htr.out.under hb2) (by rw [Hrl.out]; omega)
        rw [← Htk.out] at hrow3
        have hb3 : Below w1.heap.size w1 w3 := ((Hbel.out.trans (hb2.mono Hbel.out.size)).alloc hlow _).grown hg3' (by rw [sz_alloc]; omega) (fun k hk => (World.ownsRow.lt Htr.out k hk).1)
        have hr4 : (Builtin.append_ #[111, 111] 111 #[u6, .slice (some ⟨w2.heap.size, 0, none⟩) 1 1]).run Tryz.prog (w2.alloc (.cells #[.int .u8 5, .string s0.f.name, .string ⟨#[]⟩, .int .i64 0] 182)) = .ok v3 w3 := hr3
        have Hrow3 := Lib.hid hrow3
        have Hb3 := Lib.hid hb3
        clear hrow3 hg3' hb3 hr3 hb2 a0 a1 a2 a3 b0 b1 b2 b3
        go_wp2_with (at_builtin; refine wp_app rfl (.tmp 25) (.tmp 30) u6 (.slice (some ⟨w2.heap.size, 0, none⟩) 1 1) (by rfl) (by rfl) rfl hr4 ?_)
        clear hr4
        go_wp2
        go_roundw
        case rel => exact ⟨k + 1, some ⟨gF, k * 4 + 4, none⟩, c + 1, by omega, (by rw [show m - (k + 1) = p2 + 1 by omega]), fun _ => ⟨by rw [Nat.add_mul, Nat.one_mul], by have := Hck0.out; omega⟩, Hrow3.out, Hb3.out, Hc2.out⟩
        case measure => simp [lenOfV]
      · have hck : cutN fl q = k := by rw [Hcut.out, Hstep.out, if_neg hle]; omega
        have Hck := Lib.hid hck
        clear hck
        obtain ⟨ads, caps, rfl, hsat⟩ := Htr.out.form g hlg1
        rw [Hrl.out]
        have Hsat := Lib.hid hsat
        clear hsat
        go_wp2_with fail
        have hfit : ∀ s ∈ (fl.take k).map rmS, SFit s := fun s hs => by
          obtain ⟨x, hx, rfl⟩ := List.mem_map.1 hs
          have hm2 := List.mem_of_mem_take hx
          rw [← Hfl.out] at hm2
          unfold filesM at hm2
          obtain ⟨f, hf, hs2⟩ := List.mem_flatMap.1 hm2
          have hxf : x.f = f := by
            unfold sf1 at hs2
            split at hs2
            · simp at hs2; subst hs2; rfl
            · cases hs2
          exact ⟨by show x.f.name.size ≤ _; rw [hxf]; have := right_names HR.out f hf; omega, Nat.zero_le _⟩
        have hldo := ldo_any wr g ad n cap _ ads caps _ HLr.out Hsat.out hfit (by rw [Hrl.out]; omega)
        rw [Hrl.out] at hldo
        refine hldo.mono ?_
        clear hldo hfit
        rintro e w5 ⟨adE, nE, capE, rfl, hL5, hg5, ho5⟩
        obtain ⟨⟨⟨⟨fsE, dnE, fuE, faE⟩, szE, frE, nxE, brE⟩, cE⟩, hr⟩ : ∃ r, dropS ⟨⟨fs, down, fuse, fault⟩, size, fr, nx, broken⟩ q = r := ⟨_, rfl⟩
        have hr2 : doS ⟨⟨fs, down, fuse, fault⟩, size, fr, nx, broken⟩ ((fl.take k).map rmS) = (⟨⟨fsE, dnE, fuE, faE⟩, szE, frE, nxE, brE⟩, cE) := by
          rw [← hr]
          unfold dropS
          rw [Hfl.out, Hck.out]
        rw [hr2] at hL5 ⊢
        have HLE := Lib.hid hL5
        have Hge := Lib.hid (World.grownBy.trans (kd_below (kd_below (kd_refl g w) Hb1.out) Hbel.out) hg5)
        have Hoe := Lib.hid (show ∀ b, (Value.slice adE nE capE).ownBlock = some b → (Value.slice ad n cap).ownBlock = some b ∨ w.heap.size ≤ b from fun b hb => (ho5 b hb).imp id (fun h => by have h1 := Hb1.out.size; have h2 := Hbel.out.size; omega))
        have Hr := Lib.hid hr
        have Hgr5 := Lib.hid hg5
        clear hr hr2 hL5 ho5
        by_cases hcE : cE = 0
        · subst hcE
          have hB : dropM ⟨⟨fs, down, fuse, fault⟩, size, fr, nx, broken⟩ q = (⟨⟨fsE, dnE, fuE, faE⟩, szE, (s0.n : Int), nxE, brE⟩, 0) := by
            unfold dropM
            rw [Hr.out, Hfl.out, Hck.out, Hs0.out]
            rfl
          have HB := Lib.hid hB
          have HN := Lib.hid (HLE.out.frm (s0.n : Int))
          have Hgn := Lib.hid (kd_set (o := 5) Hge.out (.int .u64 (s0.n : Int)))
          obtain ⟨d0, d1, d2, d3, d4, d5, d6, d7⟩ := box8 HLE.out.h
          have f5 := frozen_of_row w5 g 5 _ 117 HLE.out.h
          have hlgE := (Array.getElem?_eq_some_iff.1 HLE.out.h).1
          have hgne : gF ≠ g := HFg
          have hc5 : w5.cell? ⟨gF, k * 4 + 3, none⟩ = some (.int .u64 (s0.n : Int)) := (World.cell?_of_block (Hgr5.out.block gF hgFr (fun e => hgne (by injection e)))).trans a3
          have hgF5 : gF < w5.heap.size := Nat.lt_of_lt_of_le hgFr Hgr5.out.size
          clear hB
          go_wp2
          exact bodyPost_ret (v := .int .i64 0) (by simp [results, Tryz.results157, go_sem]) rfl ⟨adE, nE, capE, by rw [HB.out], by rw [HB.out]; exact HN.out, Hgn.out, Hoe.out⟩
        · have hB : dropM ⟨⟨fs, down, fuse, fault⟩, size, fr, nx, broken⟩ q = (⟨⟨fsE, dnE, fuE, faE⟩, szE, frE, nxE, brE⟩, cE) := by
            unfold dropM
            rw [Hr.out]
            exact if_neg hcE
          have HB := Lib.hid hB
          have hc1 : (cE != 0) = true := by simp [hcE]
          clear hB hcE
          go_wp2
          exact bodyPost_ret (v := .int .i64 cE) (by simp [results, Tryz.results157, go_sem]) rfl ⟨adE, nE, capE, by rw [HB.out], by rw [HB.out]; exact HLE.out, Hge.out, Hoe.out⟩
end Go.Proofs.YtkhmdofeonlnpaaGreatDoor

/- SEGMENT, MATHEMATICS: what is read of files; what is mended. -/
namespace Go.Proofs.YtkhmdofeonlnpaaGreatDoor
open Go.RowKit
set_option maxRecDepth 100000
set_option linter.unusedVariables false
set_option linter.unusedSimpArgs false

/-- what is read of files from a number on: records, the number to come, what is cut off, the files behind the end -/
structure RD where
  rs : List Rec
  nx : Nat
  cut : List S
  rest : List SF
noncomputable def rdM : Nat → List SF → RD
  | n, [] => ⟨[], n, [], []⟩
  | n, s :: t => if s.n = n then
      (if sumL (framesL s.f.data n) < s.f.data.size then ⟨framesL s.f.data n, n + (framesL s.f.data n).length, [⟨4, s.f.name, ⟨#[]⟩, (sumL (framesL s.f.data n) : Nat)⟩], t⟩
       else ⟨framesL s.f.data n ++ (rdM (n + (framesL s.f.data n).length) t).rs, (rdM (n + (framesL s.f.data n).length) t).nx, (rdM (n + (framesL s.f.data n).length) t).cut, (rdM (n + (framesL s.f.data n).length) t).rest⟩)
    else ⟨[], n, [], s :: t⟩
theorem rdM_torn {n : Nat} {s : SF} {t : List SF} (h : s.n = n) (h2 : sumL (framesL s.f.data n) < s.f.data.size) : rdM n (s :: t) = ⟨framesL s.f.data n, n + (framesL s.f.data n).length, [⟨4, s.f.name, ⟨#[]⟩, (sumL (framesL s.f.data n) : Nat)⟩], t⟩ := by rw [rdM, if_pos h, if_pos h2]
theorem rdM_on {n : Nat} {s : SF} {t : List SF} (h : s.n = n) (h2 : ¬ sumL (framesL s.f.data n) < s.f.data.size) : rdM n (s :: t) = ⟨framesL s.f.data n ++ (rdM (n + (framesL s.f.data n).length) t).rs, (rdM (n + (framesL s.f.data n).length) t).nx, (rdM (n + (framesL s.f.data n).length) t).cut, (rdM (n + (framesL s.f.data n).length) t).rest⟩ := by rw [rdM, if_pos h, if_neg h2]
theorem rdM_end {n : Nat} {s : SF} {t : List SF} (h : ¬ s.n = n) : rdM n (s :: t) = ⟨[], n, [], s :: t⟩ := by rw [rdM, if_neg h]
theorem rdM_rest : ∀ (l : List SF) (n : Nat), ∃ A, l = A ++ (rdM n l).rest
  | [], n => ⟨[], rfl⟩
  | s :: t, n => by
    by_cases h : s.n = n
    · by_cases h2 : sumL (framesL s.f.data n) < s.f.data.size
      · rw [rdM_torn h h2]; exact ⟨[s], rfl⟩
      · rw [rdM_on h h2]
        obtain ⟨A, hA⟩ := rdM_rest t (n + (framesL s.f.data n).length)
        exact ⟨s :: A, by simp only [List.cons_append]; rw [← hA]⟩
    · rw [rdM_end h]; exact ⟨[], rfl⟩
theorem rdM_cut : ∀ (l : List SF) (n : Nat), (rdM n l).cut = [] ∨ ∃ c, (rdM n l).cut = [c]
  | [], n => .inl rfl
  | s :: t, n => by
    by_cases h : s.n = n
    · by_cases h2 : sumL (framesL s.f.data n) < s.f.data.size
      · rw [rdM_torn h h2]; exact .inr ⟨_, rfl⟩
      · rw [rdM_on h h2]; exact rdM_cut t _
    · rw [rdM_end h]; exact .inl rfl
theorem snoc_inj {α : Type} {a b : List α} {x y : α} (h : a ++ [x] = b ++ [y]) : a = b ∧ x = y := by
  have := List.append_inj' h rfl
  exact ⟨this.1, by simpa using this.2⟩
/-- a last file that lies behind the end is left out -/
theorem rdM_less : ∀ (l : List SF) (n : Nat) (s : SF) (r0 : List SF), (rdM n (l ++ [s])).rest = r0 ++ [s] → rdM n l = ⟨(rdM n (l ++ [s])).rs, (rdM n (l ++ [s])).nx, (rdM n (l ++ [s])).cut, r0⟩
  | [], n, s, r0, h => by
    by_cases h1 : s.n = n
    · by_cases h2 : sumL (framesL s.f.data n) < s.f.data.size
      · rw [List.nil_append, rdM_torn h1 h2] at h; simp at h
      · rw [List.nil_append, rdM_on h1 h2] at h; simp [rdM] at h
    · rw [List.nil_append, rdM_end h1] at h ⊢
      have : r0 = [] := by
        have := snoc_inj (a := []) (b := r0) h
        exact this.1.symm
      subst this
      rfl
  | x :: l, n, s, r0, h => by
    rw [List.cons_append] at h ⊢
    by_cases h1 : x.n = n
    · by_cases h2 : sumL (framesL x.f.data n) < x.f.data.size
      · rw [rdM_torn h1 h2] at h ⊢
        rw [rdM_torn h1 h2]
        rw [(snoc_inj h).1]
      · rw [rdM_on h1 h2] at h ⊢
        rw [rdM_on h1 h2, rdM_less l _ s r0 h]
    · rw [rdM_end h1] at h ⊢
      rw [rdM_end h1]
      have : x :: l = r0 := (snoc_inj (a := x :: l) h).1
      rw [this]
/-- a last file that is torn -/
theorem rdM_trim : ∀ (l : List SF) (n : Nat) (c : S), (rdM n l).rest = [] → (rdM n l).cut = [c] → ∃ l0 s k, l = l0 ++ [s] ∧ c = ⟨4, s.f.name, ⟨#[]⟩, (k : Nat)⟩ ∧ k ≤ s.f.data.size ∧
      ∀ s' : SF, s'.n = s.n → s'.f.data = s.f.data.extract 0 k → rdM n (l0 ++ [s']) = ⟨(rdM n l).rs, (rdM n l).nx, [], []⟩
  | [], n, c, _, h => by simp [rdM] at h
  | x :: l, n, c, h, hc => by
    by_cases h1 : x.n = n
    · by_cases h2 : sumL (framesL x.f.data n) < x.f.data.size
      · rw [rdM_torn h1 h2] at h hc ⊢
        simp only at h hc
        subst h
        refine ⟨[], x, sumL (framesL x.f.data n), rfl, by injection hc with hc; exact hc.symm, by omega, fun s' e1 e2 => ?_⟩
        have hz : (x.f.data.extract 0 (sumL (framesL x.f.data n))).size = sumL (framesL x.f.data n) := by rw [ByteArray.size_extract]; omega
        have hft : framesL s'.f.data n = framesL x.f.data n := by rw [e2, frames_trim]
        rw [List.nil_append, rdM_on (by rw [e1, h1]) (by rw [hft, e2, hz]; omega), hft]
        simp [rdM]
      · rw [rdM_on h1 h2] at h hc ⊢
        obtain ⟨l0, s, k, rfl, e2, e3, e4⟩ := rdM_trim l _ c h hc
        refine ⟨x :: l0, s, k, rfl, e2, e3, fun s' a b => ?_⟩
        rw [List.cons_append, rdM_on h1 h2, e4 s' a b]
    · rw [rdM_end h1] at hc; cases hc
/-- all of it is read: what is behind is read from there on -/
theorem rdM_app : ∀ (l t : List SF) (n : Nat), (rdM n l).cut = [] → (rdM n l).rest = [] → rdM n (l ++ t) = ⟨(rdM n l).rs ++ (rdM (rdM n l).nx t).rs, (rdM (rdM n l).nx t).nx, (rdM (rdM n l).nx t).cut, (rdM (rdM n l).nx t).rest⟩
  | [], t, n, _, _ => by simp [rdM]
  | x :: l, t, n, h, hr => by
    by_cases h1 : x.n = n
    · by_cases h2 : sumL (framesL x.f.data n) < x.f.data.size
      · rw [rdM_torn h1 h2] at h; cases h
      · rw [rdM_on h1 h2] at h hr ⊢
        rw [List.cons_append, rdM_on h1 h2, rdM_app l t _ h hr]
        simp
    · rw [rdM_end h1] at hr; cases hr
theorem rdM_pre : ∀ (l t : List SF) (n : Nat), (rdM n (l ++ t)).cut = [] → (rdM n (l ++ t)).rest = [] → (rdM n l).cut = [] ∧ (rdM n l).rest = []
  | [], t, n, _, _ => ⟨rfl, rfl⟩
  | x :: l, t, n, h, hr => by
    rw [List.cons_append] at h hr
    by_cases h1 : x.n = n
    · by_cases h2 : sumL (framesL x.f.data n) < x.f.data.size
      · rw [rdM_torn h1 h2] at h; cases h
      · rw [rdM_on h1 h2] at h hr ⊢
        exact rdM_pre l t _ h hr
    · rw [rdM_end h1] at hr; cases hr
theorem rdM_len : ∀ (l : List SF) (n : Nat), (rdM n l).nx = n + (rdM n l).rs.length
  | [], n => rfl
  | x :: l, n => by
    by_cases h1 : x.n = n
    · by_cases h2 : sumL (framesL x.f.data n) < x.f.data.size
      · rw [rdM_torn h1 h2]
      · rw [rdM_on h1 h2, List.length_append, rdM_len l]; omega
    · rw [rdM_end h1]; rfl
theorem rdM_seq : ∀ (l : List SF) (n i : Nat) (r : Rec), (rdM n l).rs[i]? = some r → r.seq = n + i
  | [], n, i, r, h => by simp [rdM] at h
  | x :: l, n, i, r, h => by
    by_cases h1 : x.n = n
    · by_cases h2 : sumL (framesL x.f.data n) < x.f.data.size
      · rw [rdM_torn h1 h2] at h; exact frames_seq _ _ _ _ h
      · rw [rdM_on h1 h2] at h
        simp only at h
        rw [List.getElem?_append] at h
        split at h
        · exact frames_seq _ _ _ _ h
        · have := rdM_seq l _ _ r h; omega
    · rw [rdM_end h1] at h; simp at h
/-- numbers stay within -/
theorem frames_bd (s : ByteArray) (n : Nat) (h : n ≤ 4611686018427387904) : n + (framesL s n).length ≤ 4611686018427387904 := by
  rcases Nat.eq_zero_or_pos (framesL s n).length with e | e
  · omega
  · obtain ⟨r, hr⟩ : ∃ r, (framesL s n)[(framesL s n).length - 1]? = some r := ⟨(framesL s n)[(framesL s n).length - 1]'(by omega), by simp⟩
    have h1 := frames_seq _ _ _ _ hr
    have h2 := r.h1
    omega
theorem rdM_bd : ∀ (l : List SF) (n : Nat), n ≤ 4611686018427387904 → (rdM n l).nx ≤ 4611686018427387904
  | [], n, h => h
  | x :: l, n, h => by
    by_cases h1 : x.n = n
    · by_cases h2 : sumL (framesL x.f.data n) < x.f.data.size
      · rw [rdM_torn h1 h2]; exact frames_bd _ _ h
      · rw [rdM_on h1 h2]; exact rdM_bd l _ (frames_bd _ _ h)
    · rw [rdM_end h1]; exact h
/-- the first number -/
def fromM : List SF → Nat
  | [] => 1
  | s :: _ => s.n
theorem fromM_bd (l : List SF) : fromM l ≤ 4611686018427387904 := by
  cases l with
  | nil => show 1 ≤ _; omega
  | cons s t => exact s.hn
/-- what is read of a disk's files -/
noncomputable def rdF (fs : List F) : RD := rdM (fromM (filesM fs)) (filesM fs)
/-- what must be done -/
noncomputable def mendM (fs : List F) : List S := (rdF fs).rest.reverse.map rmS ++ (rdF fs).cut

theorem sf1_eq {f : F} {s : SF} (h : s ∈ sf1 f) : s.f = f ∧ f.name = nameB s.n ∧ sf1 f = [s] := by
  cases hn : numB f.name with
  | none => rw [sf1_none hn] at h; cases h
  | some n =>
    rw [sf1_some hn] at h ⊢
    rw [List.mem_singleton] at h
    subst h
    exact ⟨rfl, (numB_some hn).2, rfl⟩
theorem filesM_mem {fs : List F} {s : SF} (h : s ∈ filesM fs) : s.f ∈ fs ∧ s.f.name = nameB s.n ∧ sf1 s.f = [s] := by
  obtain ⟨f, hf, hs⟩ := List.mem_flatMap.1 h
  obtain ⟨e1, e2, e3⟩ := sf1_eq hs
  subst e1
  exact ⟨hf, e2, e3⟩
theorem filesM_app (a b : List F) : filesM (a ++ b) = filesM a ++ filesM b := by simp [filesM]
theorem filesM_cons (f : F) (b : List F) : filesM (f :: b) = sf1 f ++ filesM b := by simp [filesM]
theorem filesM_pw : ∀ (fs : List F), (fs.map F.name).Pairwise (fun a b => lt a b = true) → (filesM fs).Pairwise (fun a b => a.n < b.n)
  | [], _ => List.Pairwise.nil
  | f :: fs, h => by
    rw [List.map_cons, List.pairwise_cons] at h
    rw [filesM_cons, List.pairwise_append]
    refine ⟨?_, filesM_pw fs h.2, fun a ha b hb => ?_⟩
    · cases hn : numB f.name with
      | none => rw [sf1_none hn]; exact List.Pairwise.nil
      | some n => rw [sf1_some hn]; exact List.pairwise_singleton _ _
    · obtain ⟨e1, e2, _⟩ := sf1_eq ha
      obtain ⟨g1, g2, _⟩ := filesM_mem hb
      have := h.1 b.f.name (List.mem_map_of_mem g1)
      rw [e2, g2] at this
      have h1 := a.hn
      have h2 := b.hn
      exact nameB_mono (by omega) (by omega) this
theorem filesM_up {fs : List F} (hR : Right fs) : (filesM fs).Pairwise (fun a b => a.n < b.n) := filesM_pw fs (right_iff.1 hR).2.2
theorem split_uniq : ∀ (X l Y r : List SF) (s : SF), (X ++ s :: Y).Pairwise (fun a b => a.n < b.n) → X ++ s :: Y = l ++ s :: r → X = l ∧ Y = r
  | [], [], Y, r, s, _, h => ⟨rfl, by simpa using h⟩
  | [], y :: l, Y, r, s, hp, h => by
    simp only [List.nil_append, List.cons_append, List.cons.injEq] at h
    obtain ⟨h1, h2⟩ := h
    subst h1
    rw [List.nil_append, List.pairwise_cons] at hp
    have := hp.1 s (by rw [h2]; simp)
    omega
  | x :: X, [], Y, r, s, hp, h => by
    simp only [List.nil_append, List.cons_append, List.cons.injEq] at h
    obtain ⟨h1, h2⟩ := h
    subst h1
    rw [List.cons_append, List.pairwise_cons] at hp
    have := hp.1 x (by simp)
    omega
  | x :: X, y :: l, Y, r, s, hp, h => by
    simp only [List.cons_append, List.cons.injEq] at h
    obtain ⟨rfl, h2⟩ := h
    rw [List.cons_append, List.pairwise_cons] at hp
    obtain ⟨e1, e2⟩ := split_uniq X l Y r s hp.2 h2
    exact ⟨by rw [e1], e2⟩
/-- where a file lies -/
theorem file_at {fs : List F} (hR : Right fs) {l r : List SF} {s : SF} (h : filesM fs = l ++ s :: r) :
    found fs s.f.name = some s.f ∧ fs[pos fs s.f.name]? = some s.f ∧ fs = fs.take (pos fs s.f.name) ++ s.f :: fs.drop (pos fs s.f.name + 1) ∧ filesM (fs.take (pos fs s.f.name)) = l ∧ filesM (fs.drop (pos fs s.f.name + 1)) = r := by
  have hm : s ∈ filesM fs := by rw [h]; simp
  obtain ⟨h1, h2, h3⟩ := filesM_mem hm
  have hf := (found_iff hR).2 ⟨h1, rfl⟩
  have hp := (found_some hf).1
  have hl := (List.getElem?_eq_some_iff.1 hp).1
  have he : fs = fs.take (pos fs s.f.name) ++ s.f :: fs.drop (pos fs s.f.name + 1) := by
    have h0 := (List.take_append_drop (pos fs s.f.name) fs).symm
    rw [List.drop_eq_getElem_cons hl, (List.getElem?_eq_some_iff.1 hp).2] at h0
    exact h0
  have hq : filesM fs = filesM (fs.take (pos fs s.f.name)) ++ s :: filesM (fs.drop (pos fs s.f.name + 1)) := by
    have h0 := congrArg filesM he
    rw [filesM_app, filesM_cons, h3] at h0
    simpa using h0
  have hu := filesM_up hR
  rw [hq] at hu h
  obtain ⟨a, b⟩ := split_uniq _ _ _ _ _ hu h
  exact ⟨hf, hp, he, a, b⟩
theorem sf1_name {f : F} {s : SF} (h : f.name = s.f.name) (hs : sf1 s.f = [s]) : sf1 f = [⟨f, s.n, s.hn⟩] := by
  cases hn : numB s.f.name with
  | none => rw [sf1_none hn] at hs; cases hs
  | some n =>
    rw [sf1_some hn] at hs
    have e := sf1_some (f := f) (n := n) (by rw [h]; exact hn)
    rw [e]
    have e2 : n = s.n := by injection hs with hs _; exact congrArg SF.n hs
    subst e2
    rfl
/-- a file is taken away -/
theorem files_rm {fs : List F} (hR : Right fs) {l r : List SF} {s : SF} (h : filesM fs = l ++ s :: r) : ref fs (rmS s) = 0 ∧ filesM (eff fs (rmS s)) = l ++ r := by
  obtain ⟨hf, hp, he, h1, h2⟩ := file_at hR h
  constructor
  · unfold ref
    rw [if_neg (by first | decide | (simp only [rmS]; decide))]
    simp only [hf]
    rw [if_neg (by first | decide | (simp only [rmS]; decide)), if_neg (by first | decide | (simp only [rmS]; decide))]
  · unfold eff
    rw [if_neg (by first | decide | (simp only [rmS]; decide))]
    simp only [hf]
    rw [if_neg (by first | decide | (simp only [rmS]; decide)), if_neg (by first | decide | (simp only [rmS]; decide)), if_neg (by first | decide | (simp only [rmS]; decide)), filesM_app, h1, h2]
/-- a file is set -/
theorem files_set {fs : List F} (hR : Right fs) {l r : List SF} {s : SF} (h : filesM fs = l ++ s :: r) (g : F) (hn : g.name = s.f.name) : filesM (fs.set (pos fs s.f.name) g) = l ++ ⟨g, s.n, s.hn⟩ :: r := by
  obtain ⟨hf, hp, he, h1, h2⟩ := file_at hR h
  have hl := (List.getElem?_eq_some_iff.1 hp).1
  obtain ⟨_, _, h3⟩ := filesM_mem (s := s) (fs := fs) (by rw [h]; simp)
  rw [List.set_eq_take_append_cons_drop, if_pos hl, filesM_app, filesM_cons, h1, h2, sf1_name hn h3]
  rfl
/-- a file is cut -/
theorem files_cut {fs : List F} (hR : Right fs) {l r : List SF} {s : SF} (h : filesM fs = l ++ s :: r) (k : Nat) (hk : k ≤ s.f.data.size) (x : ByteArray) :
    ref fs ⟨4, s.f.name, x, (k : Nat)⟩ = 0 ∧ filesM (eff fs ⟨4, s.f.name, x, (k : Nat)⟩) = l ++ ⟨⟨s.f.name, s.f.data.extract 0 k, (k : Nat)⟩, s.n, s.hn⟩ :: r := by
  obtain ⟨hf, hp, he, h1, h2⟩ := file_at hR h
  constructor
  · unfold ref
    rw [if_neg (by first | decide | (simp only [rmS]; decide))]
    simp only [hf]
    rw [if_neg (by first | decide | (simp only [rmS]; decide)), if_pos (by first | decide | (simp only [rmS]; decide)), if_neg (by omega)]
  · unfold eff
    rw [if_neg (by first | decide | (simp only [rmS]; decide))]
    simp only [hf]
    rw [if_neg (by first | decide | (simp only [rmS]; decide)), if_neg (by first | decide | (simp only [rmS]; decide)), if_pos (by first | decide | (simp only [rmS]; decide))]
    exact files_set hR h _ rfl
/-- one thing is mended: the rest is to be mended then -/
theorem mend_one {fs : List F} (hR : Right fs) {m : S} {ms : List S} (h : mendM fs = m :: ms) :
    (1 ≤ m.kind ∧ m.kind ≤ 5) ∧ ref fs m = 0 ∧ Right (eff fs m) ∧ mendM (eff fs m) = ms ∧ (rdF (eff fs m)).rs = (rdF fs).rs ∧ (rdF (eff fs m)).nx = (rdF fs).nx ∧ fromM (filesM (eff fs m)) = fromM (filesM fs) ∧ m.name.size ≤ 4096 ∧ m.data.size = 0 ∧ (m.kind = 4 ∨ m.kind = 5) := by
  unfold mendM at h
  obtain ⟨A, hA⟩ := rdM_rest (filesM fs) (fromM (filesM fs))
  have hok : ∀ s ∈ filesM fs, s.f.name.size ≤ 4096 := fun s hs => (hR.ok _ (filesM_mem hs).1).1.2
  rcases List.eq_nil_or_concat (rdF fs).rest with hr | ⟨r0, s, hr⟩
  · -- the cut
    rw [hr, List.reverse_nil, List.map_nil, List.nil_append] at h
    rcases rdM_cut (filesM fs) (fromM (filesM fs)) with e | ⟨c, e⟩
    · have : (rdF fs).cut = [] := e
      rw [this] at h; cases h
    have e' : (rdF fs).cut = [c] := e
    rw [e'] at h
    injection h with hm hms
    subst hm hms
    obtain ⟨l0, s, k, e1, e2, e3, e4⟩ := rdM_trim _ _ _ hr e
    have hs : s ∈ filesM fs := by rw [e1]; simp
    obtain ⟨f1, f2⟩ := files_cut hR e1 k e3 ⟨#[]⟩
    rw [← e2] at f1 f2
    have hk : 1 ≤ c.kind ∧ c.kind ≤ 5 := by rw [e2]; exact ⟨by first | decide | (simp only [rmS]; decide), by first | decide | (simp only [rmS]; decide)⟩
    have hfrom : fromM (l0 ++ [⟨⟨s.f.name, s.f.data.extract 0 k, (k : Nat)⟩, s.n, s.hn⟩]) = fromM (filesM fs) := by
      rw [e1]
      cases l0 <;> rfl
    have hrd : rdF (eff fs c) = ⟨(rdF fs).rs, (rdF fs).nx, [], []⟩ := by
      unfold rdF
      rw [f2, hfrom]
      exact e4 _ rfl rfl
    refine ⟨hk, f1, right_eff hR hk f1, ?_, by rw [hrd], by rw [hrd], by rw [f2, hfrom], by rw [e2]; exact hok s hs, by rw [e2]; rfl, by rw [e2]; exact .inl rfl⟩
    unfold mendM
    rw [hrd]
    rfl
  · -- a file
    rw [List.concat_eq_append] at hr
    rw [hr, List.reverse_append, List.reverse_singleton, List.singleton_append, List.map_cons, List.cons_append] at h
    injection h with hm hms
    subst hm
    have hA' : filesM fs = (A ++ r0) ++ [s] := by
      have h0 : (rdM (fromM (filesM fs)) (filesM fs)).rest = r0 ++ [s] := hr
      rw [h0] at hA
      rw [hA, List.append_assoc]
    have hs : s ∈ filesM fs := by rw [hA']; simp
    obtain ⟨f1, f2⟩ := files_rm hR hA'
    rw [List.append_nil] at f2
    have hne : A ++ r0 ≠ [] := by
      intro e
      have h0 : (rdM (fromM (filesM fs)) (filesM fs)).rest = r0 ++ [s] := hr
      rw [hA', e, List.nil_append] at h0
      have h1 : rdM (fromM [s]) [s] = rdM s.n [s] := rfl
      rw [h1] at h0
      by_cases h2 : sumL (framesL s.f.data s.n) < s.f.data.size
      · rw [rdM_torn rfl h2] at h0; simp at h0
      · rw [rdM_on rfl h2] at h0; simp [rdM] at h0
    have hfrom : fromM (A ++ r0) = fromM (filesM fs) := by
      rw [hA']
      cases hx : A ++ r0 with
      | nil => exact absurd hx hne
      | cons y l => rfl
    have hrd : rdF (eff fs (rmS s)) = ⟨(rdF fs).rs, (rdF fs).nx, (rdF fs).cut, r0⟩ := by
      unfold rdF
      rw [f2, hfrom]
      have h0 : (rdM (fromM (filesM fs)) (filesM fs)).rest = r0 ++ [s] := hr
      have := rdM_less (A ++ r0) (fromM (filesM fs)) s r0 (by rw [← hA']; exact h0)
      rw [← hA'] at this
      exact this
    refine ⟨⟨by first | decide | (simp only [rmS]; decide), by first | decide | (simp only [rmS]; decide)⟩, f1, right_eff hR ⟨by first | decide | (simp only [rmS]; decide), by first | decide | (simp only [rmS]; decide)⟩ f1, ?_, by rw [hrd], by rw [hrd], by rw [f2, hfrom], hok s hs, rfl, .inr rfl⟩
    unfold mendM
    rw [hrd]
    exact hms
end Go.Proofs.YtkhmdofeonlnpaaGreatDoor
