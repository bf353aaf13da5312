/- THE FIVE KINDS of changes, each as run needs it. -/
import Derived.Test.YtcefhcailhediaaRun
namespace Go.Proofs.Ytcefhcailhediaa
open Go.RowKit
set_option linter.unusedVariables false
set_option linter.unusedSimpArgs false

theorem eff1 {fs : List F} {n d : ByteArray} {z : Int} : eff fs ⟨1, n, d, z⟩ = fs.take (pos fs n) ++ ⟨n, ⟨#[]⟩, 0⟩ :: fs.drop (pos fs n) := by simp [eff]
theorem eff2 {fs : List F} {n d : ByteArray} {z : Int} {f : F} (h : found fs n = some f) : eff fs ⟨2, n, d, z⟩ = fs.set (pos fs n) ⟨f.name, f.data ++ d, f.syn⟩ := by simp [eff, h]
theorem eff3 {fs : List F} {n d : ByteArray} {z : Int} {f : F} (h : found fs n = some f) : eff fs ⟨3, n, d, z⟩ = fs.set (pos fs n) ⟨f.name, f.data, f.data.size⟩ := by simp [eff, h]
theorem eff4 {fs : List F} {n d : ByteArray} {z : Int} {f : F} (h : found fs n = some f) : eff fs ⟨4, n, d, z⟩ = fs.set (pos fs n) ⟨f.name, f.data.extract 0 z.toNat, z⟩ := by simp [eff, h]
theorem eff5 {fs : List F} {n d : ByteArray} {z : Int} {f : F} (h : found fs n = some f) : eff fs ⟨5, n, d, z⟩ = fs.take (pos fs n) ++ fs.drop (pos fs n + 1) := by simp [eff, h]
theorem half_not {fs : List F} {k : Int} {n d : ByteArray} {z : Int} (h : ¬ k = 2) : half fs ⟨k, n, d, z⟩ = fs := by simp [half, h]
theorem half_two {fs : List F} {n d : ByteArray} {z : Int} : half fs ⟨2, n, d, z⟩ = eff fs ⟨2, n, d, z⟩ := by simp [half]
theorem ref_found {fs : List F} {k : Int} {n d : ByteArray} {z : Int} (hk : ¬ k = 1) (h : ref fs ⟨k, n, d, z⟩ = 0) : ∃ f, found fs n = some f := by
  cases hf : found fs n with
  | some f => exact ⟨f, rfl⟩
  | none => rw [refN hk hf] at h; cases h
theorem ref_new {fs : List F} {n d : ByteArray} {z : Int} (h : ref fs ⟨1, n, d, z⟩ = 0) : okN n ∧ found fs n = none ∧ fs.length ≠ 64 := by
  rw [ref1] at h
  by_cases c : okN n
  · rw [if_pos c] at h
    cases hf : found fs n with
    | some f => rw [hf] at h; simp at h
    | none =>
      rw [hf] at h
      simp only [Option.isSome_none, Bool.false_eq_true, if_false] at h
      by_cases c64 : fs.length = 64
      · rw [if_pos c64] at h; cases h
      · exact ⟨c, rfl, c64⟩
  · rw [if_neg c] at h; cases h
theorem ref_more {fs : List F} {n d : ByteArray} {z : Int} {f : F} (hf : found fs n = some f) (h : ref fs ⟨2, n, d, z⟩ = 0) : d.size ≤ 262144 - f.data.size := by
  rw [ref2 hf] at h
  by_cases c : 262144 - f.data.size < d.size
  · rw [if_pos c] at h; cases h
  · omega
theorem ref_size {fs : List F} {n d : ByteArray} {z : Int} {f : F} (hf : found fs n = some f) (h : ref fs ⟨4, n, d, z⟩ = 0) : 0 ≤ z ∧ z ≤ (f.data.size : Int) := by
  rw [ref4 hf] at h
  by_cases c : z < 0 ∨ (f.data.size : Int) < z
  · rw [if_pos c] at h; cases h
  · omega
theorem behind_row {base : Nat} {w w' : World} {g : Nat} {ad : Option Addr} {n cap : Nat} {down : Bool} {fuse fault : Int} {out : List F} (hD : Dk w' g 64 (.slice ad n cap) down fuse fault) (hR : FRow w' base (.slice ad n cap) out) (hb : Below base w w') : Behind base w g down fuse fault out w' := by
  obtain ⟨ad', cap', hv, hi⟩ := Inp.of_row hR
  simp only [Value.slice.injEq] at hv
  obtain ⟨rfl, rfl, rfl⟩ := hv
  exact ⟨ad, _, cap, hD, hi, hb, fun b hb => (hR.lt b hb).1⟩
theorem Own.here {w : World} {g base : Nat} {ad : Option Addr} {n cap : Nat} {down : Bool} {fuse fault : Int} {fs : List F} (h : Own w g base ad n cap down fuse fault fs) {nm : ByteArray} {f : F} (hf : found fs nm = some f) :
    ∃ gb, ad = some ⟨gb, 0, none⟩ ∧ gb < w.heap.size ∧ gb ≠ g ∧ n ≤ cap ∧ base ≤ gb := by
  rcases h.place with ⟨_, hn, _⟩ | h'
  · have := h.on.n
    have h0 : fs = [] := List.eq_nil_of_length_eq_zero (by omega)
    subst h0
    cases found_mem hf
  · exact h'
theorem still {w : World} {g base : Nat} {ad : Option Addr} {n cap : Nat} {down : Bool} {fuse fault : Int} {fs : List F} (h : Own w g base ad n cap down fuse fault fs) (x : Value) (k : Int) (nm dt : ByteArray) (z : Int) :
    Calls Try.prog 41 #[x, .agg (scells k nm dt z)] w fun e w' => e = .returned (.tuple #[]) ∧ Behind base w g down fuse fault fs w' :=
  (nothing_any x k nm dt z w).mono fun e w' ⟨h1, h2⟩ => ⟨h1, (h.keep h2).behind (h2.mono h.bw)⟩

section
variable (g base : Nat) (ad : Option Addr) (n cap : Nat) (fs : List F) (nm dt : ByteArray) (z : Int)
theorem kind1 (hs : nm.size ≤ 9223372036854775807) : Kind3 g base ad n cap fs ⟨1, nm, dt, z⟩ 42 43 41 where
  ea := fun args w => rfl
  eb := fun args w => rfl
  ec := fun args w => rfl
  re := fun w down fuse fault h => ref_42 w g ad n cap down fuse fault fs nm dt z 1 h.on hs
  do_ := fun w down fuse fault h h0 => by
    obtain ⟨_, hf, _⟩ := ref_new h0
    rw [eff1]
    rcases h.place with ⟨rfl, rfl, rfl⟩ | ⟨gb, rfl, h1, h2, h3, h4⟩
    · exact create_none w g base down fuse fault fs nm dt z 1 h.on h.bw h.bg hf
    · exact create_some w g base gb n cap down fuse fault fs nm dt z 1 h.on h1 h3 h2 h4 h.bw h.bg hf
  ha := fun w down fuse fault h h0 => by rw [half_not (by omega)]; exact still h _ _ _ _ _
theorem kind2 (hs : dt.size ≤ 9223372036854775807) : Kind3 g base ad n cap fs ⟨2, nm, dt, z⟩ 44 45 45 := by
  have hdo : ∀ w down fuse fault, Own w g base ad n cap down fuse fault fs → ref fs ⟨2, nm, dt, z⟩ = 0 → Calls Try.prog 45 #[.pointer (some ⟨g, 0, none⟩), .agg (scells 2 nm dt z)] w fun e w' => e = .returned (.tuple #[]) ∧ Behind base w g down fuse fault (eff fs ⟨2, nm, dt, z⟩) w' := by
    intro w down fuse fault h h0
    obtain ⟨f, hf⟩ := ref_found (by omega) h0
    have hm := ref_more hf h0
    rw [eff2 hf]
    obtain ⟨gb, rfl, h1, h2, h3, h4⟩ := h.here hf
    exact (add_any w g base gb n cap down fuse fault fs nm dt z f 2 h.on h.row (fun e => h2 e.symm) hf (by omega)).mono fun e w' ⟨a, b, c, d⟩ => ⟨a, behind_row b c d⟩
  exact {
    ea := fun args w => rfl
    eb := fun args w => rfl
    ec := fun args w => rfl
    re := fun w down fuse fault h => ref_44 w g ad n cap down fuse fault fs nm dt z 2 h.on hs
    do_ := hdo
    ha := fun w down fuse fault h h0 => by rw [half_two]; exact hdo w down fuse fault h h0 }
theorem kind3 : Kind3 g base ad n cap fs ⟨3, nm, dt, z⟩ 46 47 41 where
  ea := fun args w => rfl
  eb := fun args w => rfl
  ec := fun args w => rfl
  re := fun w down fuse fault h => ref_46 w g ad n cap down fuse fault fs nm dt z 3 3 (.inl rfl) h.on
  do_ := fun w down fuse fault h h0 => by
    obtain ⟨f, hf⟩ := ref_found (by omega) h0
    rw [eff3 hf]
    obtain ⟨gb, rfl, h1, h2, h3, h4⟩ := h.here hf
    exact (sync_any w g base gb n cap down fuse fault fs nm dt z f 3 h.on h.row (fun e => h2 e.symm) hf).mono fun e w' ⟨a, b, c, d⟩ => ⟨a, behind_row b c d⟩
  ha := fun w down fuse fault h h0 => by rw [half_not (by omega)]; exact still h _ _ _ _ _
theorem kind4 : Kind3 g base ad n cap fs ⟨4, nm, dt, z⟩ 48 49 41 where
  ea := fun args w => rfl
  eb := fun args w => rfl
  ec := fun args w => rfl
  re := fun w down fuse fault h => ref_48 w g ad n cap down fuse fault fs nm dt z 4 h.on
  do_ := fun w down fuse fault h h0 => by
    obtain ⟨f, hf⟩ := ref_found (by omega) h0
    obtain ⟨z0, z1⟩ := ref_size hf h0
    rw [eff4 hf]
    obtain ⟨gb, rfl, h1, h2, h3, h4⟩ := h.here hf
    exact (cut_any w g base gb n cap down fuse fault fs nm dt z f 4 h.on h.row (fun e => h2 e.symm) hf z0 z1).mono fun e w' ⟨a, b, c, d⟩ => ⟨a, behind_row b c d⟩
  ha := fun w down fuse fault h h0 => by rw [half_not (by omega)]; exact still h _ _ _ _ _
theorem kind5 : Kind3 g base ad n cap fs ⟨5, nm, dt, z⟩ 46 50 41 where
  ea := fun args w => rfl
  eb := fun args w => rfl
  ec := fun args w => rfl
  re := fun w down fuse fault h => ref_46 w g ad n cap down fuse fault fs nm dt z 5 5 (.inr rfl) h.on
  do_ := fun w down fuse fault h h0 => by
    obtain ⟨f, hf⟩ := ref_found (by omega) h0
    rw [eff5 hf]
    obtain ⟨gb, rfl, h1, h2, h3, h4⟩ := h.here hf
    exact remove_any w g base gb n cap down fuse fault fs nm dt z 5 f h.on h1 h3 h2 h4 h.bw h.bg hf
  ha := fun w down fuse fault h h0 => by rw [half_not (by omega)]; exact still h _ _ _ _ _
end

/-- run, whatever it meets -/
theorem run_any (w : World) (g base : Nat) (ad : Option Addr) (n cap : Nat) (down : Bool) (fuse fault : Int) (fs : List F) (k : Int) (nm dt : ByteArray) (z : Int) (a b c : Nat)
    (h : Own w g base ad n cap down fuse fault fs) (K : Kind3 g base ad n cap fs ⟨k, nm, dt, z⟩ a b c) (f0 : -9223372036854775808 ≤ fault) (f1 : fault ≤ 9223372036854775807) (u0 : -9223372036854775808 ≤ fuse) (u1 : fuse ≤ 9223372036854775807) :
    Calls Try.prog 29 #[.pointer (some ⟨g, 0, none⟩), chv a b c, .agg (scells k nm dt z)] w fun e w' => e = .returned (.int .i64 (run ⟨fs, down, fuse, fault⟩ ⟨k, nm, dt, z⟩).2) ∧ BehindD base w g (run ⟨fs, down, fuse, fault⟩ ⟨k, nm, dt, z⟩).1 w' := by
  cases down with
  | true =>
    rw [run_down]
    exact run_1 w g base ad n cap fuse fault fs k nm dt z a b c h
  | false =>
    by_cases h0 : ref fs ⟨k, nm, dt, z⟩ = 0
    · by_cases h1 : fault = 0
      · rw [run_fault h0 h1]
        exact run_3 w g base ad n cap fuse fault fs k nm dt z a b c h K h0 h1 f0 f1
      · by_cases h2 : fuse = 0
        · rw [run_fuse h0 h1 h2]
          exact run_4 w g base ad n cap fuse fault fs k nm dt z a b c h K h0 h1 h2 f0 f1
        · rw [run_done h0 h1 h2]
          exact run_5 w g base ad n cap fuse fault fs k nm dt z a b c h K h0 h1 h2 f0 f1 u0 u1
    · rw [run_ref h0]
      exact run_2 w g base ad n cap fuse fault fs k nm dt z a b c h K _ rfl h0
end Go.Proofs.Ytcefhcailhediaa
