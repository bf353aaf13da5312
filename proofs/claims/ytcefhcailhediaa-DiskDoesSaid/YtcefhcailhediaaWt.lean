/- THE FORM'S OWN REACH, READ OFF A DISK THAT WAS HANDED IN. -/
import Derived.Test.YtcefhcailhediaaOpn
namespace Go.Proofs.Ytcefhcailhediaa
open Go.RowKit Go.ChangeShapes Go.WideShapes Go.Deep Joins
set_option linter.unusedVariables false
set_option linter.unusedSimpArgs false
section
variable {H : Type} {enc : TypeId × Value → H} {w : World}
theorem Try.bytes46 : Try.prog.bytesOf 46 = 40 := by kernel_rfl
theorem wt_files {fuel : Nat} {ad : Option Addr} {n cap : Nat} {x : DataW H × List MemPlace} (h : DataW.trod enc Try.prog w 0 (fun _ => true) true fuel 22 [.slice ad n cap] = some x)
    (hw : ∀ k ∈ x.1.weights Try.prog 22, k ≤ reachBytes) : n * 40 ≤ 140737488355328 := by
  rcases Deep.open_slice Try.underlying22 h with ⟨hcs, _⟩ | ⟨a, len, cap', m, k, D, Pl, hcs, _, hl, hm, hmm, hx, hi⟩
  · simp at hcs
    obtain ⟨_, rfl, _⟩ := hcs
    omega
  · simp at hcs
    obtain ⟨_, rfl, rfl⟩ := hcs
    subst hx
    simp only [if_true] at hmm
    subst hmm
    have := hw ((((List.range n).map D).length + ((List.range (m - n)).map fun j => D (n + j)).length) * Try.prog.bytesOf 46) (by simp [DataW.weights, Try.underlying22])
    rw [Try.bytes46] at this
    simp only [List.length_map, List.length_range] at this
    have h47 := reachBytes_lt
    omega
set_option maxRecDepth 100000 in
theorem open_disk_wt {r : Reach} {b0 : Nat} {v : Value} {d : DataW H} {p : List MemPlace} (hv : Value.okWide Try.prog w r b0 24 v) (h : DataW.Trod enc Try.prog w 0 (fun _ => true) true 24 v d p)
    (hw : ∀ k ∈ d.weights Try.prog 24, k ≤ reachBytes) :
    ∃ ad n cap down fuse fault fs, v = .agg (dcells (.slice ad n cap) down fuse fault) ∧ DIn w ad n cap fuse fault fs ∧ n * 40 ≤ 140737488355328 := by
  obtain ⟨ad, n, cap, down, fuse, fault, fs, rfl, hD⟩ := open_disk hv h
  refine ⟨ad, n, cap, down, fuse, fault, fs, rfl, hD, ?_⟩
  obtain ⟨v0, v1, v2, v3, y0, y1, y2, y3, k, he, hd, _, h0, h1, h2, h3⟩ := Joins.open_agg4 Try.underlying24 (by kernel_rfl) Try.cells24 hv h
  injection he with he
  simp [dcells] at he
  obtain ⟨rfl, _⟩ := he
  subst hd
  exact wt_files h0 fun k hk => hw k (by simp [DataW.weights, DataW.weightsEach, Try.underlying24]; exact .inl hk)
end
end Go.Proofs.Ytcefhcailhediaa
