/- CONF: THE SEARCH IN TEXTS; add AS MATHEMATICS. -/
import Derived.Test.YtegobomfhdfodaaGreatDoorCv
namespace Go.Proofs.YtegobomfhdfodaaGreatDoor
open Go.RowKit
set_option maxRecDepth 100000
set_option linter.unusedVariables false
set_option linter.unusedSimpArgs false

/-- a predicate of texts that is called -/
structure Test (C : Nat) (p : K.T → Bool) (w : World) : Prop where
  ent : ∀ (args : Array Value) (W : World), (callFunc C args).run Tryz.prog W = .ok (.enter C args) W
  ok : ∀ (W : World) (s : K.T), Below w.heap.size w W → Calls Tryz.prog C #[S s] W fun en w' => en = .returned (.bool (p s)) ∧ Below W.heap.size W w'
set_option maxHeartbeats 4000000 in
theorem index_texts {B : Nat → Prop} (w : World) (q : Value) (l : List K.T) (C : Nat) (p : K.T → Bool) (hq : RepT B w q l) (hT : Test C p w) :
    Calls Tryz.prog 85 #[q, .func (.func C) #[] #[]] w fun e w' => e = .returned (.int .i64 (atI (l.findIdx? p))) ∧ Below w.heap.size w w' := by
  obtain ⟨ad, cap, rfl, hl⟩ := hq.form
  obtain ⟨n, hn⟩ : ∃ n, n = l.length := ⟨_, rfl⟩
  rw [← hn] at hq hl ⊢
  have Hq := Lib.hid hq
  have Hn := Lib.hid hn
  have HT := Lib.hid hT
  have hent := hT.ent
  clear hq hn hT
  go_enter Tryz.func85, Tryz.ntmps85
  go_wp2
  go_loopw [8] (fun i wr => ∃ k : Nat, i = .int .i64 (k : Int) ∧ k ≤ n ∧ (∀ j e, j < k → l[j]? = some e → p e = false) ∧ Below w.heap.size w wr) (fun i _ => n - (intOf i).toNat)
  case atStart => exact ⟨0, rfl, Nat.zero_le _, fun j e hj => by omega, Below.refl _ _⟩
  case round =>
    obtain ⟨k, rfl, hk, hall, hbel⟩ := hrel
    have Hall := Lib.hid hall
    have Hbel := Lib.hid hbel
    clear hall hbel
    by_cases hlt : k < n
    · obtain ⟨y, hy⟩ := get_at (l := l) (k := k) (by rw [← Hn.out]; exact hlt)
      obtain ⟨g, o, rfl, hg, c0, _⟩ := (Hq.out.under Hbel.out).at hy
      have Hy := Lib.hid hy
      clear hy
      go_wp2_with fail
      refine (HT.out.ok wr y Hbel.out).mono ?_
      rintro en w1 ⟨rfl, hb1⟩
      have Hb1 := Lib.hid (Hbel.out.trans (hb1.mono Hbel.out.size))
      clear hb1 c0
      obtain ⟨b, hb⟩ : ∃ b, p y = b := ⟨_, rfl⟩
      rw [hb]
      have HB := Lib.hid hb
      clear hb
      cases b with
      | true =>
        have hfin : l.findIdx? p = some k := by
          rw [List.findIdx?_eq_some_iff_getElem]
          have hl : k < l.length := by have := Hn.out; omega
          refine ⟨hl, ?_, fun j hj => ?_⟩
          · have := (List.getElem?_eq_some_iff.1 Hy.out).2
            rw [this]; exact HB.out
          · have := Hall.out j _ hj (List.getElem?_eq_getElem (by omega))
            rw [this]; decide
        have Hfin := Lib.hid hfin
        clear hfin
        go_wp2
        go_ret
        exact ⟨by rw [Hfin.out]; rfl, Hb1.out⟩
      | false =>
        go_wp2
        go_roundw
        case rel =>
          refine ⟨k + 1, by go_num, by omega, fun j x hj hjx => ?_, Hb1.out⟩
          rcases Nat.lt_or_ge j k with q | q
          · exact Hall.out j x q hjx
          · obtain rfl : j = k := by omega
            rw [Hy.out] at hjx
            injection hjx with hjx
            subst hjx
            exact HB.out
        case measure => simp [intOf]; omega
    · have hkn : k = n := by omega
      have hfin : l.findIdx? p = none := by
        rw [List.findIdx?_eq_none_iff]
        intro x hx
        obtain ⟨j, hj, rfl⟩ := List.mem_iff_getElem.1 hx
        exact Hall.out j _ (by have := Hn.out; omega) (List.getElem?_eq_getElem hj)
      have Hfin := Lib.hid hfin
      clear hfin
      go_wp2
      go_ret
      exact ⟨by rw [Hfin.out]; rfl, Hbel.out⟩
theorem atI_any (l : List K.T) (p : K.T → Bool) : decide (0 ≤ atI (l.findIdx? p)) = l.any p := by
  cases h : l.findIdx? p with
  | none =>
    have h2 : l.any p = false := by
      rw [List.any_eq_false]
      intro x hx
      rw [List.findIdx?_eq_none_iff.1 h x hx]
      decide
    rw [h2]
    rfl
  | some i =>
    have h2 : l.any p = true := by
      obtain ⟨hi, hp, _⟩ := List.findIdx?_eq_some_iff_getElem.1 h
      rw [List.any_eq_true]
      exact ⟨_, List.getElem_mem hi, hp⟩
    rw [h2]
    simp [atI]
theorem contains_texts {B : Nat → Prop} (w : World) (q : Value) (l : List K.T) (C : Nat) (p : K.T → Bool) (hq : RepT B w q l) (hT : Test C p w) :
    Calls Tryz.prog 51 #[q, .func (.func C) #[] #[]] w fun e w' => e = .returned (.bool (l.any p)) ∧ Below w.heap.size w w' := by
  have hix := index_texts w q l C p hq hT
  have ha := atI_any l p
  obtain ⟨z, hz⟩ : ∃ z, atI (l.findIdx? p) = z := ⟨_, rfl⟩
  rw [hz] at hix ha
  obtain ⟨ad, cap, rfl, hl⟩ := hq.form
  rw [← ha]
  generalize l.length = n at *
  clear hq hT hz ha
  go_enter Tryz.func51, Tryz.ntmps51
  go_wp2_with fail
  refine hix.mono ?_
  rintro e w1 ⟨rfl, hb1⟩
  go_wp2
  go_ret
  exact ⟨by simp, hb1⟩
theorem test50 (w : World) : Test 50 (fun s => decide (4096 < s.length)) w := ⟨fun args W => by kernel_rfl, fun W s _ => (long_any s W).mono fun e w' h => ⟨h.1, by rw [h.2]; exact Below.refl _ _⟩⟩
theorem Txs.any {n0 : Nat} {v : Value} {ss : List K.T} {w : World} (h : Txs n0 v ss w) (hl : ∀ s ∈ ss, s.length ≤ 1000000) : RepT (fun _ => True) w v ss := (h.rep (base := n0) (act := []) (Nat.le_refl _) hl (fun _ h => absurd h (by simp))).mono fun _ _ _ => trivial
theorem Txs.oth {n0 : Nat} {v : Value} {ss : List K.T} {w w' : World} (h : Txs n0 v ss w) (ho : Oth w w') : Txs n0 v ss w' := by
  refine ⟨h.1, ?_⟩
  rcases h.2 with h2 | ⟨g, cap, cur, hv, hbg, hg, r⟩
  · exact .inl h2
  · exact .inr ⟨g, cap, cur, hv, hbg, ho.2 g _ hg (fun cs t f e => by injection e with _ e; subst e; decide), r⟩
theorem Txs.under {n0 : Nat} {v : Value} {ss : List K.T} {w w' : World} (h : Txs n0 v ss w) (hb : Below w.heap.size w w') : Txs n0 v ss w' := h.oth (.of_below hb)

namespace K
def Leaf.nd (x : Leaf) : Nd := .mk x.kind x.text x.list []
/-- a line comes to the maps -/
def addTo (ln : Line) : List L → Except Int (List L)
  | a :: r =>
    if ln.node.kind = 0 ∧ ¬ r.length + 1 ≤ 8 then .error 11
    else if decide (4096 < ln.node.text.length) || ln.node.list.any fun s => decide (4096 < s.length) then .error 4
    else if ¬ ln.node.list.length ≤ 256 then .error 3
    else if (find a.2 ln.key).isSome then .error 15
    else if ¬ a.2.length < 256 then .error 3
    else .ok ((a.1, a.2 ++ [(ln.key, ln.node.nd)]) :: r)
  | [] => .error 15
def add (st : List L) (ln : Line) : Except Int (List L) :=
  match reach ln.indent st with
  | some st' => addTo ln st'
  | none => .error 15
theorem addTo_wait {ln : Line} {st st' : List L} (h : addTo ln st = .ok st') : Wait st' := by
  cases st with
  | nil => cases h
  | cons a r =>
    simp only [addTo] at h
    split at h
    · cases h
    · rename_i h1
      split at h
      · cases h
      · split at h
        · cases h
        · split at h
          · cases h
          · split at h
            · cases h
            · injection h with h
              subst h
              intro a' r' e hw
              injection e with e1 e2
              subst e1
              subst e2
              simp only [K.waits, List.getLast?_append, List.getLast?_singleton, Option.some_or] at hw
              have hk : ln.node.kind = 0 := by simpa [Leaf.nd, Nd.k] using hw
              by_cases h8 : r.length + 1 ≤ 8
              · exact h8
              · exact absurd ⟨hk, h8⟩ h1
theorem add_wait {ln : Line} {st st' : List L} (h : add st ln = .ok st') : Wait st' := by
  unfold add at h
  split at h
  · exact addTo_wait h
  · cases h
theorem addTo_ok {ln : Line} {st st' : List L} (hok : Ok st) (h : addTo ln st = .ok st') : Ok st' := by
  cases st with
  | nil => cases h
  | cons a r =>
    simp only [addTo] at h
    split at h
    · cases h
    · split at h
      · cases h
      · split at h
        · cases h
        · split at h
          · cases h
          · split at h
            · cases h
            · rename_i h5
              injection h with h
              subst h
              obtain ⟨⟨s, x, e, hx⟩, ne, few, len⟩ := hok
              refine ⟨?_, ne, fun b hb => ?_, len⟩
              · cases s with
                | nil =>
                  simp at e
                  obtain ⟨rfl, rfl⟩ := e
                  exact ⟨[], _, rfl, hx⟩
                | cons y s =>
                  simp at e
                  obtain ⟨rfl, rfl⟩ := e
                  exact ⟨_ :: s, x, rfl, hx⟩
              · rcases List.mem_cons.1 hb with rfl | hb
                · simp; omega
                · exact few b (by simp [hb])
end K
end Go.Proofs.YtegobomfhdfodaaGreatDoor
