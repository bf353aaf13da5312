/- THE WALK OVER THE DOCUMENT's OWN Read. -/
import Derived.Test.YtnnnnlcpmocnfaaFirst
import Derived.Test.YtnnnnlcpmocnfaaRead
import Derived.Test.YtnnnnlcpmocnfaaAll
namespace Go.Proofs.Ytnnnnlcpmocnfaa
open Go.RowKit
set_option linter.unusedVariables false
set_option linter.unusedSimpArgs false

def vLen : Value → Nat
  | .string s => s.size
  | _ => 0
theorem vLen_mk (l : List UInt8) : vLen (.string ⟨l.toArray⟩) = l.length := by simp [vLen, ByteArray.size]

structure RInv (s : List UInt8) (w wr : World) (rest : List UInt8) (acc : List M.Fd) (v : Value) : Prop where
  row : FRow wr w.heap.size v acc
  fine : ∀ f ∈ acc, Fine f
  len : acc.length + rest.length ≤ 65536
  eq : M.parse s = M.ahead acc (M.parse rest)
  bel : Below w.heap.size w wr

theorem rread_ok {s : List UInt8} {w wr : World} {acc : List M.Fd} {v : Value} (hs : s.length ≤ 65536) (h : RInv s w wr [] acc v) (hl : acc.length ≤ 4096) : ReadPost s w (.returned (.tuple #[v, .int .i64 0])) wr := by
  refine ⟨h.bel, ?_⟩
  have hr : M.read s = .ok acc := by rw [M.read, if_neg (by omega), h.eq, M.ahead_end]; simp; omega
  rw [hr]
  exact ⟨v, rfl, h.row, h.fine, hl⟩
theorem rread_many {s : List UInt8} {w wr : World} {acc : List M.Fd} {v : Value} (hs : s.length ≤ 65536) (h : RInv s w wr [] acc v) (hl : 4096 < acc.length) : ReadPost s w (.returned (.tuple #[.slice none 0 0, .int .i64 3])) wr := by
  refine readPost_err (x := 3) h.bel ?_
  rw [M.read, if_neg (by omega), h.eq, M.ahead_end]; simp; omega
theorem rread_err {s : List UInt8} {w wr w' : World} {rest : List UInt8} {acc : List M.Fd} {v : Value} {x : Nat} (hs : s.length ≤ 65536) (h : RInv s w wr rest acc v) (hne : rest ≠ []) (hp : M.parse1 rest = .error x) (hb : Below w.heap.size w w') :
    ReadPost s w (.returned (.tuple #[.slice none 0 0, .int .i64 (x : Int)])) w' := by
  refine readPost_err hb ?_
  rw [M.read, if_neg (by omega), h.eq, M.ahead_err acc hne hp]

theorem first_err {l : List UInt8} {x : Nat} (hl : l.length ≤ 65536) (hp : M.parse1 l = .error x) (W : World) : Calls Try.prog 37 #[.string ⟨l.toArray⟩] W fun e w' => ∃ a b c z r, e = .returned (.tuple #[.agg (fcells a b c z), .string ⟨List.toArray r⟩, .int .i64 (x : Int)]) ∧ Below W.heap.size W w' :=
  (first_any l W hl).mono fun e w' h => by
    obtain ⟨hb, h⟩ := h
    rw [hp] at h
    obtain ⟨a, b, c, z, r, he⟩ := h
    exact ⟨a, b, c, z, r, he, hb⟩
theorem first_ok {l r : List UInt8} {f : M.Fd} (hl : l.length ≤ 65536) (hp : M.parse1 l = .ok (f, r)) (W : World) : Calls Try.prog 37 #[.string ⟨l.toArray⟩] W fun e w' => ∃ a b c z, e = .returned (.tuple #[.agg (fcells a b c z), .string ⟨r.toArray⟩, .int .i64 0]) ∧ Fit f a b c z ∧ Below W.heap.size W w' :=
  (first_any l W hl).mono fun e w' h => by
    obtain ⟨hb, h⟩ := h
    rw [hp] at h
    obtain ⟨a, b, c, z, hf, he⟩ := h
    exact ⟨a, b, c, z, he, hf, hb⟩
theorem FRow.later {w w' : World} {base : Nat} {v : Value} {fs : List M.Fd} (h : FRow w base v fs) (hb : Below w.heap.size w w') : FRow w' base v fs :=
  h.kept (row := none) ⟨hb.os, hb.tape, hb.output, hb.size, fun k hk _ => hb.block k hk⟩ (by cases v.ownBlock <;> simp)

set_option maxHeartbeats 4000000 in
theorem rread_any (s : List UInt8) (w : World) (hs : s.length ≤ 9223372036854775807) : Calls Try.prog 23 #[.string ⟨s.toArray⟩] w (ReadPost s w) := by
  by_cases hl : 65536 < s.length
  · have hr : M.read s = .error 4 := by rw [M.read, if_pos hl]
    have Hr := Lib.hid hr
    clear hr
    go_enter Try.func23, Try.ntmps23
    go_wp2
    go_ret2
    exact readPost_err (Below.refl _ _) Hr.out
  · have hl' : s.length ≤ 65536 := by omega
    clear hl hs
    go_enter Try.func23, Try.ntmps23
    go_wp2
    go_loopw [4, 0] (fun v x wr => ∃ rest acc, x = .string ⟨List.toArray rest⟩ ∧ RInv s w wr rest acc v) (fun _ x _ => vLen x)
    case atStart => exact ⟨s, [], rfl, ⟨FRow.nil _ _, (by intro f hf; cases hf), (by simpa using hl'), (by rw [M.ahead_nil]), Below.refl _ _⟩⟩
    case round =>
      obtain ⟨rest, acc, rfl, hinv⟩ := hrel
      have hrl : rest.length ≤ 65536 := by have := hinv.len; omega
      have hal : acc.length ≤ 65536 := by have := hinv.len; omega
      have Hl' := Lib.hid hl'
      cases rest with
      | nil =>
        obtain ⟨ad, cap, rfl⟩ := hinv.row.form
        have HI := Lib.hid hinv
        clear hinv
        by_cases hbig : 4096 < acc.length
        · go_wp2
          go_ret2
          exact rread_many Hl'.out HI.out hbig
        · have hsm : acc.length ≤ 4096 := by omega
          go_wp2
          go_ret2
          exact rread_ok Hl'.out HI.out hsm
      | cons x t =>
        have hne : x :: t ≠ [] := by simp
        have hsz := hinv.bel.size
        cases hp : M.parse1 (x :: t) with
        | error e =>
          have hc := first_err hrl hp
          have hx := M.parse1_err hp
          have Hc := Lib.hid hc
          have Hp := Lib.hid hp
          have HI := Lib.hid hinv
          clear hc hp hinv
          rcases hx with rfl | rfl
          all_goals
            go_wp2_with fail
            refine (Hc.out _).mono ?_
            rintro e' w1 ⟨a, b, c, z, r, rfl, hb1⟩
            have Hb1 := Lib.hid (HI.out.bel.trans (hb1.mono hsz))
            clear hb1
            go_wp2
            go_ret2
            exact rread_err Hl'.out HI.out hne Hp.out (Hb1.out.alloc (by have := Hb1.out.size; omega) _)
        | ok p =>
          obtain ⟨f, r⟩ := p
          have hc := first_ok hrl hp
          have hrl2 := M.parse1_len hp
          have heq : M.parse s = M.ahead (acc ++ [f]) (M.parse r) := by rw [hinv.eq, M.ahead_ok acc hne hp]
          have hlen := hinv.len
          have Hc := Lib.hid hc
          have Heq := Lib.hid heq
          have HI := Lib.hid hinv
          have Hal := Lib.hid (show acc.length ≤ 3518437208782 by omega)
          clear hc hp hinv heq
          go_wp2_with fail
          refine (Hc.out _).mono ?_
          rintro e' w1 ⟨a, b, c, z, rfl, hfit, hb1⟩
          have hrow1 := HI.out.row.later hb1
          have Hb1 := Lib.hid (HI.out.bel.trans (hb1.mono hsz))
          have Hrow1 := Lib.hid hrow1
          have Hfc := Lib.hid (fc_fit hfit)
          have Hfit := Lib.hid hfit
          have Hs := Lib.hid (show w.heap.size ≤ (w1.alloc (.cells (fcells a b c z) 39)).heap.size by have := Hb1.out.size; simp; omega)
          clear hb1 hrow1 hfit
          go_wp2_with (at_builtin; refine wp_app_fd rfl _ _ rfl w.heap.size _ _ rfl (Hrow1.out.alloc _) f (fcells a b c z) Hfc.out _ rfl (by simp) Hal.out Hs.out ?_)
          intro v2 w2 hrow2 hgr2
          have Hrow2 := Lib.hid hrow2
          have Hb2 := Lib.hid ((Hb1.out.alloc Hb1.out.size _).trans (hgr2.below Hs.out (fun k hk => (Hrow1.out.lt k hk).1)))
          clear hrow2 hgr2
          go_wp2
          go_roundw
          case rel =>
            refine ⟨r, acc ++ [f], rfl, Hrow2.out, ?_, by simp only [List.length_append, List.length_cons, List.length_nil] at *; omega, Heq.out, Hb2.out⟩
            intro g hg
            rcases List.mem_append.1 hg with h1 | h1
            · exact HI.out.fine g h1
            · simp at h1; subst h1; exact ⟨_, _, _, _, Hfit.out⟩
          case measure => rw [vLen_mk, vLen_mk]; exact hrl2
end Go.Proofs.Ytnnnnlcpmocnfaa
