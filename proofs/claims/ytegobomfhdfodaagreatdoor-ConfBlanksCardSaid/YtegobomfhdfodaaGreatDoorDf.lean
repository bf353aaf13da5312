/- CONF: THE WALKS OVER put, shown, list. -/
import Derived.Test.YtegobomfhdfodaaGreatDoorDe
import Derived.Test.YtegobomfhdfodaaGreatDoorCw
namespace Go.Proofs.YtegobomfhdfodaaGreatDoor
open Go.RowKit
set_option maxRecDepth 100000
set_option linter.unusedVariables false
set_option linter.unusedSimpArgs false

/-- how the writer's methods end: all that is to be written, if it is not too long -/
def WP (B b : Nat) (w : World) (total : K.T) (e : Ending) (w' : World) : Prop :=
  Below B w w' ∧ OthW w w' ∧ if total.length ≤ 16384 then e = .returned (.tuple #[]) ∧ IsW B b total w' else e = pan 4
theorem WP.yes {B b : Nat} {w w' : World} {total : K.T} {e : Ending} (h : WP B b w total e w') (hl : total.length ≤ 16384) : e = .returned (.tuple #[]) ∧ IsW B b total w' ∧ Below B w w' ∧ OthW w w' := by
  obtain ⟨h1, h2, h3⟩ := h
  rw [if_pos hl] at h3
  exact ⟨h3.1, h3.2, h1, h2⟩
theorem WP.no {B b : Nat} {w w' : World} {total : K.T} {e : Ending} (h : WP B b w total e w') (hl : ¬ total.length ≤ 16384) : e = pan 4 ∧ Below B w w' ∧ OthW w w' := by
  obtain ⟨h1, h2, h3⟩ := h
  rw [if_neg hl] at h3
  exact ⟨h3, h1, h2⟩
theorem RepT.othw {w w' : World} {q : Value} {l : List K.T} {g : Nat} {cs : Array Value} (hq : q = .slice (some ⟨g, 0, none⟩) l.length l.length) (hg : w.heap[g]? = some (.cells cs 9 (0, 0))) (hc : ∀ (i : Nat) (s : K.T), l[i]? = some s → cs[i]? = some (S s) ∧ s.length ≤ 1000000) (hn : l.length ≤ 1000) (ho : OthW w w') : RepT (fun _ => True) w' q l := by
  have hg' := ho.2 _ _ _ _ hg (by decide) (by decide)
  refine ⟨g, 0, ⟨_, _, hq, ⟨Nat.le_refl _, by omega⟩, fun _ => ⟨rfl, trivial, blk_lt hg'⟩⟩, fun i s hi => ⟨?_, by have := (hc i s hi).2; omega⟩⟩
  rw [Nat.zero_add, cell_of_row w' g i cs 9 (0, 0) hg']
  exact (hc i s hi).1
set_option maxHeartbeats 4000000 in
theorem put_any (w : World) (B b g : Nat) (acc : K.T) (l : List K.T) (cs : Array Value) (h : IsW B b acc w) (hg : w.heap[g]? = some (.cells cs 9 (0, 0))) (hc : ∀ (i : Nat) (s : K.T), l[i]? = some s → cs[i]? = some (S s) ∧ s.length ≤ 1000000) (hn : l.length ≤ 10) (ha : acc.length ≤ 16384) (hB : B ≤ w.heap.size) :
    Calls Tryz.prog 41 #[.pointer (some ⟨b, 0, none⟩), .slice (some ⟨g, 0, none⟩) l.length l.length] w (WP B b w (acc ++ l.flatten)) := by
  have hrep : ∀ w', OthW w w' → RepT (fun _ => True) w' (.slice (some ⟨g, 0, none⟩) l.length l.length) l := fun w' ho => RepT.othw rfl hg hc (by omega) ho
  have hfl : ∀ k, (l.take k).flatten.length ≤ k * 1000000 := by
    obtain ⟨m, hm⟩ : ∃ m : Nat, 1000000 = m := ⟨_, rfl⟩
    rw [hm] at hc ⊢
    intro k
    induction k with
    | zero => simp
    | succ k ih =>
      rw [Nat.succ_mul]
      cases hk : l[k]? with
      | none => rw [List.take_add_one, hk]; simp at ih ⊢; omega
      | some s =>
        have := (hc k s hk).2
        rw [List.take_add_one, hk]
        simp only [Option.toList_some, List.flatten_append, List.flatten_singleton, List.length_append]
        omega
  obtain ⟨T, hT⟩ : ∃ T, acc ++ l.flatten = T := ⟨_, rfl⟩
  rw [hT]
  obtain ⟨n, hn'⟩ : ∃ n, l.length = n := ⟨_, rfl⟩
  rw [hn'] at hrep hn ⊢
  have HR := Lib.hid hrep
  have HF := Lib.hid hfl
  have HT := Lib.hid hT
  have HN := Lib.hid hn'
  have H := Lib.hid h
  have HC := Lib.hid hc
  have HB := Lib.hid hB
  clear hrep hfl hT hn' h hc hg hB
  go_enter Tryz.func41, Tryz.ntmps41
  go_wp2
  go_loopw [8] (fun i wr => ∃ k : Nat, i = .int .i64 (k : Int) ∧ k ≤ n ∧ IsW B b (acc ++ (l.take k).flatten) wr ∧ Below B w wr ∧ OthW w wr) (fun i _ => n - (intOf i).toNat)
  case atStart => exact ⟨0, rfl, Nat.zero_le _, by simpa using H.out, Below.refl _ _, .of_below (Below.refl _ _)⟩
  case round =>
    obtain ⟨k, rfl, hk, hib, hbel, hoth⟩ := hrel
    have HIB := Lib.hid hib
    have HBO := Lib.hid (And.intro hbel hoth)
    clear hib hbel hoth
    by_cases hlt : k < n
    · obtain ⟨y, hy⟩ := get_at (l := l) (k := k) (by rw [HN.out]; exact hlt)
      obtain ⟨g', o', he, hg', c0, _⟩ := (HR.out wr HBO.out.2).at hy
      injection he with he
      injection he with he1 he2 _
      subst he1
      subst he2
      rw [Nat.zero_add] at c0
      have hkn : (k : Int) < (n : Int) := by omega
      have hyl := (HC.out k y hy).2
      have hf := HF.out k
      have hws := write_str B b (acc ++ (l.take k).flatten) y wr HIB.out (by rw [List.length_append]; omega) (Nat.le_trans HB.out HBO.out.1.size)
      have hts : (acc ++ (l.take k).flatten) ++ y = acc ++ (l.take (k + 1)).flatten := by rw [List.take_add_one, hy]; simp
      rw [hts] at hws
      have HWS := Lib.hid hws
      clear hws hts hf hy hyl
      go_wp2_with fail
      refine (HWS.out).mono ?_
      rintro e w1 ⟨rfl, hib1, hb1, ho1⟩
      go_wp2
      go_roundw
      case rel => exact ⟨k + 1, by go_num, by omega, hib1, HBO.out.1.trans hb1, HBO.out.2.trans ho1⟩
      case measure => simp [intOf]; omega
    · have hkn : ¬ (k : Int) < (n : Int) := by omega
      have hfull : IsW B b T wr := by
        have := HIB.out
        rw [List.take_of_length_le (by rw [HN.out]; omega), HT.out] at this
        exact this
      have hln := wlen_any B b T wr hfull
      have HFU := Lib.hid hfull
      clear hfull
      by_cases hl : T.length ≤ 16384
      · have hl' : (T.length : Int) ≤ 16384 := by omega
        have HL := Lib.hid hl
        clear hl
        go_wp2_with (go_at_call 74; refine hln.mono ?_; rintro e w1 ⟨rfl, rfl⟩)
        refine (unless_yes 4 wr).mono ?_
        rintro e w1 ⟨rfl, rfl⟩
        go_wp2
        go_end0
        exact ⟨HBO.out.1, HBO.out.2, by rw [if_pos HL.out]; exact ⟨rfl, HFU.out⟩⟩
      · have hl' : ¬ (T.length : Int) ≤ 16384 := by omega
        have hd : decide ((T.length : Int) ≤ 16384) = false := decide_eq_false hl'
        have HL := Lib.hid hl
        clear hl
        go_wp2_with (go_at_call 74; refine hln.mono ?_; rintro e w1 ⟨rfl, rfl⟩)
        refine (unless_no 4 wr).mono ?_
        rintro e w1 ⟨rfl, rfl⟩
        go_wp2
        exact ⟨rfl, HBO.out.1, HBO.out.2, by rw [if_neg HL.out]⟩
namespace K
/-- as it is, or quoted -/
def shown (p : T → Bool) (s : T) : T := if p s then s else quo s
end K
theorem shown_any (w : World) (s : K.T) (C : Nat) (p : K.T → Bool) (hs : s.length ≤ 1000000) (hent : ∀ (args : Array Value) (W : World), (callFunc C args).run Tryz.prog W = .ok (.enter C args) W) (hp : Calls Tryz.prog C #[S s] w fun e w' => e = .returned (.bool (p s)) ∧ Below w.heap.size w w') :
    Calls Tryz.prog 42 #[S s, .func (.func C) #[] #[]] w fun e w' => e = .returned (S (K.shown p s)) ∧ Below w.heap.size w w' := by
  unfold K.shown
  obtain ⟨b, hb⟩ : ∃ b, p s = b := ⟨_, rfl⟩
  rw [hb] at hp ⊢
  have HP := Lib.hid hp
  clear hp hb
  cases b with
  | true =>
    rw [if_pos rfl]
    go_enter Tryz.func42, Tryz.ntmps42
    go_wp2_with fail
    refine (HP.out).mono ?_
    rintro e w1 ⟨rfl, hb1⟩
    go_wp2
    go_ret
    exact ⟨rfl, hb1⟩
  | false =>
    rw [if_neg (by decide)]
    have hq := fun W => quo_any W s hs
    obtain ⟨x, hx⟩ : ∃ x, K.quo s = x := ⟨_, rfl⟩
    simp only [hx] at hq ⊢
    clear hx hs
    go_enter Tryz.func42, Tryz.ntmps42
    go_wp2_with fail
    refine (HP.out).mono ?_
    rintro e w1 ⟨rfl, hb1⟩
    go_wp2_with fail
    refine (hq w1).mono ?_
    rintro e w2 ⟨rfl, hb2⟩
    go_wp2
    go_ret
    exact ⟨rfl, hb1.trans (hb2.mono hb1.size)⟩
end Go.Proofs.YtegobomfhdfodaaGreatDoor
