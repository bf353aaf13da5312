/- HTTP: REQUESTS, RESPONSES, HEADS THAT CAME IN. -/
import Derived.Test.YtjkinjfbjbehjaaGreatDoorGaq
import Derived.Test.YtjkinjfbjbehjaaGreatDoorRows
import Derived.SliceStrings
import Derived.OpenShut
import Derived.ShutString
import Derived.LaidMore
import Derived.SizedLaws
import Derived.Stop.Joined
import Derived.Lib.SmallJoins
import Derived.Deep.Slices
namespace Go.Proofs.YtjkinjfbjbehjaaGreatDoor
open Go.RowKit Go.ChangeShapes Go.WideShapes Go.Deep Joins
set_option linter.unusedVariables false
set_option linter.unusedSimpArgs false
set_option maxRecDepth 100000
theorem hlist_choose {α : Type} {P : Nat → α → Prop} : ∀ n, (∀ i, i < n → ∃ x, P i x) → ∃ l : List α, l.length = n ∧ ∀ i x, l[i]? = some x → P i x
  | 0, _ => ⟨[], rfl, fun i x h => by simp at h⟩
  | n + 1, h => by
    obtain ⟨l, hl, hi⟩ := hlist_choose n (fun i hi => h i (by omega))
    obtain ⟨x, hx⟩ := h n (by omega)
    refine ⟨l ++ [x], by simp [hl], fun i y hy => ?_⟩
    rw [List.getElem?_append] at hy
    split at hy
    · exact hi i y hy
    · rename_i h1
      have : i = n := by
        have := (List.getElem?_eq_some_iff.1 hy).1
        simp at this
        omega
      subst this
      simp [hl] at hy
      subst hy
      exact hx
theorem hlist2 {l : List Value} (h : l.length = 2) : ∃ a b, l = [a, b] := by
  match l, h with
  | [a, b], _ => exact ⟨a, b, rfl⟩
theorem Tryz.cells73 : Tryz.prog.cellsOf 73 = 2 := by kernel_rfl
theorem Tryz.cells9' : Tryz.prog.cellsOf 9 = 1 := by kernel_rfl
theorem Tryz.cells24' : Tryz.prog.cellsOf 24 = 4 := by kernel_rfl
theorem Tryz.cells29' : Tryz.prog.cellsOf 29 = 3 := by kernel_rfl
theorem Tryz.bytes73 : Tryz.prog.bytesOf 73 = 32 := by kernel_rfl
section
variable {E : Type} {enc : TypeId × Value → E} {w : World}
theorem hweights_mem {P : Program} {e : TypeId} : ∀ {l : List (DataW E)} {d : DataW E}, d ∈ l → ∀ k ∈ d.weights P e, k ∈ DataW.weightsAll P e l
  | a :: t, d, h, k, hk => by
    rw [DataW.weightsAll, List.mem_append]
    rcases List.mem_cons.1 h with q | q
    · subst q; exact .inl hk
    · exact .inr (hweights_mem q k hk)
theorem reach_lt : reachBytes = 140737488351232 := rfl
theorem open_head1 {base : Nat} {spare : Nat → Bool} {held : Bool} {fuel : Nat} {cs : List Value} {x : DataW E × List MemPlace} (h : DataW.trod enc Tryz.prog w base spare held fuel 73 cs = some x) (hw : ∀ k ∈ x.1.weights Tryz.prog 73, k ≤ reachBytes) :
    ∃ f : H.Hd, (f.name.length ≤ 140737488355000 ∧ f.value.length ≤ 140737488355000) ∧ cs = [S f.name, S f.value] := by
  obtain ⟨y0, y1, n, rfl, hlen, h0, h1⟩ := trod_struct2 Tryz.underlying73 h
  rw [Tryz.cells73] at hlen
  obtain ⟨c0, c1, rfl⟩ := hlist2 hlen
  simp [Tryz.cells9'] at h0 h1
  obtain ⟨s0, e0, hy0, w0⟩ := DataW.trod_string Tryz.underlying9 h0
  obtain ⟨s1, e1, hy1, w1⟩ := DataW.trod_string Tryz.underlying9 h1
  simp only [List.cons.injEq, and_true] at e0 e1
  subst e0 e1
  have hz0 : s0.size ≤ reachBytes := by
    refine hw _ ?_
    simp only [DataW.weights, Tryz.underlying73]
    subst hy0
    simp [DataW.weights, DataW.weightsEach]
  have hz1 : s1.size ≤ reachBytes := by
    refine hw _ ?_
    simp only [DataW.weights, Tryz.underlying73]
    subst hy1
    simp [DataW.weights, DataW.weightsEach]
  have h47 := reach_lt
  refine ⟨⟨s0.data.toList, s1.data.toList⟩, ⟨?_, ?_⟩, ?_⟩
  · show s0.data.toList.length ≤ _; rw [← Lib.size_eq]; omega
  · show s1.data.toList.length ≤ _; rw [← Lib.size_eq]; omega
  · show [Value.string s0, Value.string s1] = [S s0.data.toList, S s1.data.toList]
    rw [show (S s0.data.toList : Value) = .string s0 from congrArg Value.string (S_data s0), show (S s1.data.toList : Value) = .string s1 from congrArg Value.string (S_data s1)]
theorem open_heads {fuel : Nat} {v : Value} {x : DataW E × List MemPlace} (h : DataW.trod enc Tryz.prog w 0 (fun _ => true) true fuel 22 [v] = some x) (hw : ∀ k ∈ x.1.weights Tryz.prog 22, k ≤ reachBytes) :
    ∃ ad hs cap, v = .slice ad hs.length cap ∧ Hds w ad hs ∧ hs.length ≤ 281474976710656 ∧ Big hs := by
  rcases Deep.open_slice Tryz.underlying22 h with ⟨hcs, _⟩ | ⟨a, len, cap, m, n, D, Pl, hcs, _, hl, hm, hmm, hx, hi⟩
  · simp at hcs
    subst hcs
    exact ⟨none, [], 0, rfl, fun h => absurd rfl h, by simp, fun f hf => by cases hf⟩
  · simp at hcs
    subst hcs
    simp only [if_true] at hmm
    subst hmm
    rw [Tryz.cells73] at hi
    subst hx
    have h47 := reach_lt
    have hbig := hw ((((List.range len).map D).length + ((List.range (m - len)).map fun j => D (len + j)).length) * Tryz.prog.bytesOf 73) (by simp [DataW.weights, Tryz.underlying22])
    rw [Tryz.bytes73] at hbig
    simp only [List.length_map, List.length_range] at hbig
    have hlb : len ≤ 4398046511104 := by omega
    by_cases h0 : len = 0
    · subst h0
      exact ⟨_, [], _, rfl, fun h => absurd rfl h, by simp, fun f hf => by cases hf⟩
    obtain ⟨b, off, spot⟩ := a
    have hs : spot = none := by
      obtain ⟨cs', hc, _⟩ := hi 0 (by omega)
      obtain ⟨_, hlc, hcell⟩ := World.cells?_some hc
      have hc0 := hcell 0 (by omega)
      have he : cs'[0]? = some (cs'[0]'(by omega)) := by simp
      rw [he] at hc0
      simpa [Addr.add] using World.cell?_spot hc0
    subst hs
    have hP : ∀ i, i < len → ∃ f : H.Hd, (f.name.length ≤ 140737488355000 ∧ f.value.length ≤ 140737488355000) ∧ b < w.heap.size ∧ w.cell? ⟨b, off + i * 2, none⟩ = some (S f.name) ∧ w.cell? ⟨b, off + i * 2 + 1, none⟩ = some (S f.value) := by
      intro i hil
      obtain ⟨cs', hc, ht⟩ := hi i (by omega)
      obtain ⟨f, hfit, rfl⟩ := open_head1 ht (fun k hk => hw k (by
        rw [DataW.weights, Tryz.underlying22]
        exact List.mem_cons_of_mem _ (List.mem_append_left _ (hweights_mem (d := D i) (List.mem_map.2 ⟨i, List.mem_range.2 hil, rfl⟩) k hk))))
      obtain ⟨_, _, hcell⟩ := World.cells?_some hc
      have hc0 := hcell 0 (by omega)
      have hc1 := hcell 1 (by omega)
      simp only [Addr.add_lit] at hc0 hc1
      exact ⟨f, hfit, World.block_lt_of_cell? w _ hc0, hc0, hc1⟩
    obtain ⟨xs, hfl, hfs⟩ := hlist_choose len hP
    refine ⟨_, xs, _, by rw [hfl], fun hne => ?_, by omega, fun f hf => ?_⟩
    · have h0 : 0 < xs.length := List.length_pos_iff.2 hne
      obtain ⟨_, hb, _⟩ := hfs 0 xs[0] (by simp)
      exact ⟨b, off, rfl, hb, fun i f hf => (hfs i f hf).2.2⟩
    · obtain ⟨i, hi'⟩ := List.getElem?_of_mem hf
      exact (hfs i f hi').1
theorem open_req {r : Reach} {b0 : Nat} {v : Value} {d : DataW E} {p : List MemPlace} (hv : Value.okWide Tryz.prog w r b0 24 v) (h : DataW.Trod enc Tryz.prog w 0 (fun _ => true) true 24 v d p) (hw : ∀ k ∈ d.weights Tryz.prog 24, k ≤ reachBytes) :
    ∃ (q : H.Rq) (ad : Option Addr) (cap : Nat), v = .agg #[S q.method, S q.target, .slice ad q.hs.length cap, S q.body] ∧ RqIn w ad q := by
  obtain ⟨v0, v1, v2, v3, y0, y1, y2, y3, n, rfl, rfl, _, h0, h1, h2, h3⟩ := Joins.open_agg4 Tryz.underlying24 (by kernel_rfl) Tryz.cells24' hv h
  obtain ⟨s0, e0, hy0, w0⟩ := DataW.trod_string Tryz.underlying9 h0
  obtain ⟨s1, e1, hy1, w1⟩ := DataW.trod_string Tryz.underlying9 h1
  obtain ⟨s3, e3, hy3, w3⟩ := DataW.trod_string Tryz.underlying9 h3
  simp only [List.cons.injEq, and_true] at e0 e1 e3
  subst e0 e1 e3
  have h47 := reach_lt
  have hz0 : s0.size ≤ reachBytes := by refine hw _ ?_; simp only [DataW.weights, Tryz.underlying24]; subst hy0; simp [DataW.weights, DataW.weightsEach]
  have hz1 : s1.size ≤ reachBytes := by refine hw _ ?_; simp only [DataW.weights, Tryz.underlying24]; subst hy1; simp [DataW.weights, DataW.weightsEach]
  have hz3 : s3.size ≤ reachBytes := by refine hw _ ?_; simp only [DataW.weights, Tryz.underlying24]; subst hy3; simp [DataW.weights, DataW.weightsEach]
  obtain ⟨ad, hs, cap, rfl, hH, hmx, hbig⟩ := open_heads h2 (fun k hk => hw k (by simp only [DataW.weights, Tryz.underlying24]; simp [DataW.weightsEach, hk]))
  refine ⟨⟨s0.data.toList, s1.data.toList, hs, s3.data.toList⟩, ad, cap, ?_, ⟨hH, hbig, hmx, ?_, ?_, ?_⟩⟩
  · simp only [S_data]
  · show s0.data.toList.length ≤ _; rw [← Lib.size_eq]; omega
  · show s1.data.toList.length ≤ _; rw [← Lib.size_eq]; omega
  · show s3.data.toList.length ≤ _; rw [← Lib.size_eq]; omega
theorem open_res {r : Reach} {b0 : Nat} {v : Value} {d : DataW E} {p : List MemPlace} (hv : Value.okWide Tryz.prog w r b0 29 v) (h : DataW.Trod enc Tryz.prog w 0 (fun _ => true) true 29 v d p) (hw : ∀ k ∈ d.weights Tryz.prog 29, k ≤ reachBytes) :
    ∃ (st : Int) (hs : List H.Hd) (b : H.T) (ad : Option Addr) (cap : Nat), v = .agg #[.int .i64 st, .slice ad hs.length cap, S b] ∧ RsIn w ad hs b ∧ (-9223372036854775808 ≤ st ∧ st ≤ 9223372036854775807) := by
  obtain ⟨v0, v1, v2, y0, y1, y2, n, rfl, rfl, _, h0, h1, h2⟩ := Joins.open_agg3 Tryz.underlying29 (by kernel_rfl) Tryz.cells29' hv h
  obtain ⟨n0, e0, _, w0⟩ := DataW.trod_int Tryz.underlying3 h0
  obtain ⟨s2, e2, hy2, w2⟩ := DataW.trod_string Tryz.underlying9 h2
  simp only [List.cons.injEq, and_true] at e0 e2
  subst e0 e2
  have b0 := bounds_i64 w0
  have h47 := reach_lt
  have hz2 : s2.size ≤ reachBytes := by refine hw _ ?_; simp only [DataW.weights, Tryz.underlying29]; subst hy2; simp [DataW.weights, DataW.weightsEach]
  obtain ⟨ad, hs, cap, rfl, hH, hmx, hbig⟩ := open_heads h1 (fun k hk => hw k (by simp only [DataW.weights, Tryz.underlying29]; simp [DataW.weightsEach, hk]))
  refine ⟨n0, hs, s2.data.toList, ad, cap, ?_, ⟨hH, hbig, hmx, ?_⟩, b0⟩
  · simp only [S_data]
  · show s2.data.toList.length ≤ _; rw [← Lib.size_eq]; omega
end
end Go.Proofs.YtjkinjfbjbehjaaGreatDoor

/- HTTP: THE WALKS OVER Find, statusLine, mustSay. -/
namespace Go.Proofs.YtjkinjfbjbehjaaGreatDoor
open Go.RowKit
set_option maxRecDepth 100000
set_option linter.unusedVariables false
set_option linter.unusedSimpArgs false

theorem tpre_len (s p : H.T) : (Lib.trimPrefix s p).length ≤ s.length := by
  unfold Lib.trimPrefix
  split
  · rw [List.length_drop]; omega
  · exact Nat.le_refl _
theorem parse_lt (M : Nat) : ∀ (l : H.T) (acc v : Nat), Lib.parseUintM M acc l = .ok v → v < (acc + 1) * 10 ^ l.length
  | [], acc, v, h => by
    simp only [Lib.parseUintM, Lib.NumEnd.ok.injEq] at h
    subst h; simp
  | b :: t, acc, v, h => by
    simp only [Lib.parseUintM] at h
    split at h
    · rename_i h1
      split at h
      · cases h
      · split at h
        · cases h
        · have := parse_lt M t _ v h
          refine Nat.lt_of_lt_of_le this ?_
          rw [List.length_cons, Nat.pow_succ, Nat.mul_comm (10 ^ t.length) 10, ← Nat.mul_assoc]
          exact Nat.mul_le_mul_right _ (by have := b.toNat_lt; omega)
    · cases h
theorem whole_lt {s : H.T} {n : Nat} (h : H.whole10 s 3 = .ok n) : n < 1000 := by
  unfold H.whole10 H.wholeO at h
  split at h
  · rename_i h3
    split at h
    · rename_i m hm
      injection h with h
      subst h
      unfold H.decO at hm
      split at hm
      · rename_i u hu
        injection hm with hm
        subst hm
        unfold Lib.parseUintB at hu
        split at hu
        · cases hu
        · have h5 := parse_lt _ _ _ _ hu
          have h6 : (10 : Nat) ^ s.length ≤ 10 ^ 3 := Nat.pow_le_pow_right (by omega) h3
          have h7 : (10 : Nat) ^ 3 = 1000 := rfl
          omega
      · cases hm
    · cases h
  · cases h
set_option maxHeartbeats 2000000 in
theorem statusLine_any (w : World) (g : Nat) (l : H.T) (most : Int) (hc : Crs w g l most) (hl : l.length ≤ 281474976710656) (hT : Tabs w) (h8 : 8 ≤ g) :
    Calls Tryz.prog 36 #[.pointer (some ⟨g, 0, none⟩)] w (Read w g most (H.statusLine l) fun n _ v => v = .int .i64 (n : Int)) := by
  unfold H.statusLine
  cases hr : H.line l with
  | error c =>
    have hq := line_err hc hl hr
    simp only
    clear hr hc hT
    go_enter Tryz.func36, Tryz.ntmps36
    go_wp2_with (refine hq.mono ?_; rintro e w1 ⟨rfl, hg⟩)
    exact ⟨rfl, Read.err hg⟩
  | ok p =>
    obtain ⟨t, r⟩ := p
    have hq := line_ok hc hl hr
    have hlen := (H.line_len hr).1
    simp only
    have htl := tpre_len t (H.version ++ [32])
    obtain ⟨b, hb⟩ : ∃ b, Lib.hasPrefix t (H.version ++ [32]) = b := ⟨_, rfl⟩
    obtain ⟨s, hs⟩ : ∃ s, Lib.trimPrefix t (H.version ++ [32]) = s := ⟨_, rfl⟩
    have hcP : ∀ w, Calls Tryz.prog 68 #[S t, .string ⟨#[72, 84, 84, 80, 47, 49, 46, 49, 32]⟩] w fun e w' => e = .returned (.tuple #[S s, .bool b]) ∧ w' = w := fun w => by
      have := Tryz.strings_CutPrefix ⟨t.toArray⟩ ⟨(H.version ++ [32]).toArray⟩ w
      rw [S_list, S_list, hb, hs] at this
      exact this
    rw [hs] at htl
    rw [hb, hs]
    obtain ⟨a, ha⟩ : ∃ a, Lib.cut s [32] = a := ⟨_, rfl⟩
    obtain ⟨a1, a2, a3⟩ := a
    have hal := cut_len s [32]
    rw [ha] at hal ⊢
    simp only at hal ⊢
    have hcA : ∀ w, (∃ m, w.cell? ⟨0, 0, none⟩ = some (.int .i64 m)) → Calls Tryz.prog 56 #[S s, .string ⟨#[32]⟩] w fun e w' => e = .returned (.tuple #[S a1, S a2, .bool a3]) ∧ ∃ n, w' = w.drewN n := fun w hm => by
      have := cut_any w s 32 (by omega) hm; rw [ha] at this; exact this
    have hw := fun w hT => whole10_any w a1 3 (by omega) hT
    have HT := Lib.hid hT
    have hlt := hc.lt
    obtain ⟨z, hz⟩ : ∃ z : Int, ((a1.length : Nat) : Int) = z := ⟨_, rfl⟩
    clear ha hb hs hr hc hal hlen htl hT
    cases b with
    | false =>
      simp only [Bool.false_and, Bool.false_eq_true, if_false]
      clear hw
      go_enter Tryz.func36, Tryz.ntmps36
      go_wp2_with fail
      refine hq.mono ?_
      rintro e w1 ⟨rfl, hg, hc1⟩
      have HT1 := Lib.hid (HT.out.grown hg h8 hlt)
      have HG := Lib.hid (Go1.mk hg hc1)
      clear hg hc1 hq HT
      go_wp2_with fail
      refine (hcP w1).mono ?_
      rintro e w2 ⟨rfl, rfl⟩
      go_wp2_with fail
      refine (hcA w2 HT1.out.m).mono ?_
      rintro e w3 ⟨rfl, n3, rfl⟩
      have HG3 := Lib.hid (HG.out.below (below_drewN' w2 n3))
      have HT3 := Lib.hid (HT1.out.under (below_drewN' w2 n3))
      clear HT1 HG hcA hcP
      go_wp2_with (go_at_call 55; with_reducible refine (unless_no _ _).mono ?_; rintro e w' ⟨rfl, rfl⟩)
      exact ⟨rfl, Read.err HG3.out.gr⟩
    | true =>
      cases a3 with
      | false =>
        simp only [Bool.true_and, Bool.false_and, Bool.false_eq_true, if_false]
        clear hw
        go_enter Tryz.func36, Tryz.ntmps36
        go_wp2_with fail
        refine hq.mono ?_
        rintro e w1 ⟨rfl, hg, hc1⟩
        have HT1 := Lib.hid (HT.out.grown hg h8 hlt)
        have HG := Lib.hid (Go1.mk hg hc1)
        clear hg hc1 hq HT
        go_wp2_with fail
        refine (hcP w1).mono ?_
        rintro e w2 ⟨rfl, rfl⟩
        go_wp2_with fail
        refine (hcA w2 HT1.out.m).mono ?_
        rintro e w3 ⟨rfl, n3, rfl⟩
        have HG3 := Lib.hid (HG.out.below (below_drewN' w2 n3))
        have HT3 := Lib.hid (HT1.out.under (below_drewN' w2 n3))
        clear HT1 HG hcA hcP
        go_wp2_with (go_at_call 55; with_reducible refine (unless_no _ _).mono ?_; rintro e w' ⟨rfl, rfl⟩)
        exact ⟨rfl, Read.err HG3.out.gr⟩
      | true =>
        by_cases h3 : a1.length = 3
        · rw [show decide (a1.length = 3) = true from by simpa using h3]
          simp only [Bool.true_and, if_true]
          have hz3 : z = 3 := by omega
          subst hz3
          cases hx : H.whole10 a1 3 with
          | error c =>
            rw [hx] at hw
            simp only at hw ⊢
            clear hx
            go_enter Tryz.func36, Tryz.ntmps36
            go_wp2_with fail
            refine hq.mono ?_
            rintro e w1 ⟨rfl, hg, hc1⟩
            have HT1 := Lib.hid (HT.out.grown hg h8 hlt)
            have HG := Lib.hid (Go1.mk hg hc1)
            clear hg hc1 hq HT
            go_wp2_with fail
            refine (hcP w1).mono ?_
            rintro e w2 ⟨rfl, rfl⟩
            go_wp2_with fail
            refine (hcA w2 HT1.out.m).mono ?_
            rintro e w3 ⟨rfl, n3, rfl⟩
            have HG3 := Lib.hid (HG.out.below (below_drewN' w2 n3))
            have HT3 := Lib.hid (HT1.out.under (below_drewN' w2 n3))
            clear HT1 HG hcA hcP
            go_wp2_with (go_at_call 55; with_reducible refine (unless_yes _ _).mono ?_; rintro e w' ⟨rfl, rfl⟩)
            refine (hw _ HT3.out).mono ?_
            rintro e w4 ⟨hb4, rfl⟩
            have HG4 := Lib.hid (HG3.out.below hb4)
            clear hb4
            go_wp2
            exact ⟨rfl, Read.err HG4.out.gr⟩
          | ok n =>
            rw [hx] at hw
            simp only at hw ⊢
            have hn := whole_lt hx
            have hwn : IntKind.i64.wrap (n : Int) = (n : Int) := by rw [IntKind.wrap_i64]; omega
            have hst := fun w => status_any w (n : Int)
            clear hx
            by_cases hc1 : 100 ≤ n ∧ n ≤ 599
            · rw [if_pos hc1]
              rw [show (decide (100 ≤ (n : Int)) && decide ((n : Int) ≤ 599)) = true from by simp; omega] at hst
              clear hc1
              go_enter Tryz.func36, Tryz.ntmps36
              go_wp2_with fail
              refine hq.mono ?_
              rintro e w1 ⟨rfl, hg, hc1⟩
              have HT1 := Lib.hid (HT.out.grown hg h8 hlt)
              have HG := Lib.hid (Go1.mk hg hc1)
              clear hg hc1 hq HT
              go_wp2_with fail
              refine (hcP w1).mono ?_
              rintro e w2 ⟨rfl, rfl⟩
              go_wp2_with fail
              refine (hcA w2 HT1.out.m).mono ?_
              rintro e w3 ⟨rfl, n3, rfl⟩
              have HG3 := Lib.hid (HG.out.below (below_drewN' w2 n3))
              have HT3 := Lib.hid (HT1.out.under (below_drewN' w2 n3))
              clear HT1 HG hcA hcP
              go_wp2_with (go_at_call 55; with_reducible refine (unless_yes _ _).mono ?_; rintro e w' ⟨rfl, rfl⟩)
              refine (hw _ HT3.out).mono ?_
              rintro e w4 ⟨hb4, rfl⟩
              have HG4 := Lib.hid (HG3.out.below hb4)
              clear hb4
              go_wp2_with (first | (go_at_call 48; refine (hst _).mono ?_; rintro e w5 ⟨rfl, rfl⟩) | (go_at_call 55; with_reducible refine (unless_yes _ _).mono ?_; rintro e w' ⟨rfl, rfl⟩))
              go_ret
              exact Read.ok HG4.out.gr rfl HG4.out.c
            · rw [if_neg hc1]
              rw [show (decide (100 ≤ (n : Int)) && decide ((n : Int) ≤ 599)) = false from by simp; omega] at hst
              clear hc1
              go_enter Tryz.func36, Tryz.ntmps36
              go_wp2_with fail
              refine hq.mono ?_
              rintro e w1 ⟨rfl, hg, hc1⟩
              have HT1 := Lib.hid (HT.out.grown hg h8 hlt)
              have HG := Lib.hid (Go1.mk hg hc1)
              clear hg hc1 hq HT
              go_wp2_with fail
              refine (hcP w1).mono ?_
              rintro e w2 ⟨rfl, rfl⟩
              go_wp2_with fail
              refine (hcA w2 HT1.out.m).mono ?_
              rintro e w3 ⟨rfl, n3, rfl⟩
              have HG3 := Lib.hid (HG.out.below (below_drewN' w2 n3))
              have HT3 := Lib.hid (HT1.out.under (below_drewN' w2 n3))
              clear HT1 HG hcA hcP
              go_wp2_with (go_at_call 55; with_reducible refine (unless_yes _ _).mono ?_; rintro e w' ⟨rfl, rfl⟩)
              refine (hw _ HT3.out).mono ?_
              rintro e w4 ⟨hb4, rfl⟩
              have HG4 := Lib.hid (HG3.out.below hb4)
              clear hb4
              go_wp2_with (first | (go_at_call 48; refine (hst _).mono ?_; rintro e w5 ⟨rfl, rfl⟩) | (go_at_call 55; with_reducible refine (unless_no _ _).mono ?_; rintro e w' ⟨rfl, rfl⟩))
              exact ⟨rfl, Read.err HG4.out.gr⟩
        · rw [show decide (a1.length = 3) = false from by simpa using h3]
          simp only [Bool.and_false, Bool.false_eq_true, if_false]
          have hz3 : ¬ z = 3 := by omega
          have Hq := Lib.hid (show (z == 3) = false from by simpa using hz3)
          clear h3 hw
          go_enter Tryz.func36, Tryz.ntmps36
          go_wp2_with fail
          refine hq.mono ?_
          rintro e w1 ⟨rfl, hg, hc1⟩
          have HT1 := Lib.hid (HT.out.grown hg h8 hlt)
          have HG := Lib.hid (Go1.mk hg hc1)
          clear hg hc1 hq HT
          go_wp2_with fail
          refine (hcP w1).mono ?_
          rintro e w2 ⟨rfl, rfl⟩
          go_wp2_with fail
          refine (hcA w2 HT1.out.m).mono ?_
          rintro e w3 ⟨rfl, n3, rfl⟩
          have HG3 := Lib.hid (HG.out.below (below_drewN' w2 n3))
          have HT3 := Lib.hid (HT1.out.under (below_drewN' w2 n3))
          clear HT1 HG hcA hcP
          go_wp2_with (go_at_call 55; first | (with_reducible refine (unless_no _ _).mono ?_; rintro e w' ⟨rfl, rfl⟩) | (rw [Hq.out]; with_reducible refine (unless_no _ _).mono ?_; rintro e w' ⟨rfl, rfl⟩))
          exact ⟨rfl, Read.err HG3.out.gr⟩
/-- mustSay -/
theorem mustSay_any (w : World) (x y : Option Addr) (n m c d : Nat) (hn : n ≤ 281474976710656) (hm : m ≤ 281474976710656) : Calls Tryz.prog 37 #[.agg #[.slice x n c, .slice y m d]] w fun e w' => Below w.heap.size w w' ∧ e = (if 0 < n + m then .returned (.tuple #[]) else pan 13) := by
  obtain ⟨X, hX⟩ : ∃ X, X = w.alloc (.cells #[.slice x n c, .slice y m d] 57) := ⟨_, rfl⟩
  have hx : X.heap[w.heap.size]? = some (.cells #[.slice x n c, .slice y m d] 57 (0, 0)) := by rw [hX]; exact blk_new w _
  have hb : Below w.heap.size w X := by rw [hX]; exact (Below.refl _ w).alloc (Nat.le_refl _) _
  obtain ⟨c0, c1⟩ := box2 hx
  have hlt := blk_lt hx
  obtain ⟨z, hz⟩ : ∃ z : Int, ((n : Nat) : Int) = z := ⟨_, rfl⟩
  obtain ⟨u, hu⟩ : ∃ u : Int, ((m : Nat) : Int) = u := ⟨_, rfl⟩
  have hw : IntKind.i64.wrap (z + u) = z + u := by rw [IntKind.wrap_i64]; omega
  by_cases h : 0 < n + m
  · rw [if_pos h]
    have h' : 0 < z + u := by omega
    have Hq := Lib.hid (show decide (0 < z + u) = true from by simpa using h')
    clear h
    go_enter Tryz.func37, Tryz.ntmps37
    go_upto_region 1 with (fail)
    rw [← hX]
    clear hX hx
    go_wp2_with (go_at_call 55; first | (with_reducible refine (unless_yes _ _).mono ?_; rintro e w' ⟨rfl, rfl⟩) | (rw [Hq.out]; with_reducible refine (unless_yes _ _).mono ?_; rintro e w' ⟨rfl, rfl⟩))
    go_end0
    exact ⟨hb, rfl⟩
  · rw [if_neg h]
    have h' : ¬ 0 < z + u := by omega
    have Hq := Lib.hid (show decide (0 < z + u) = false from by simpa using h')
    clear h
    go_enter Tryz.func37, Tryz.ntmps37
    go_upto_region 1 with (fail)
    rw [← hX]
    clear hX hx
    go_wp2_with (go_at_call 55; first | (with_reducible refine (unless_no _ _).mono ?_; rintro e w' ⟨rfl, rfl⟩) | (rw [Hq.out]; with_reducible refine (unless_no _ _).mono ?_; rintro e w' ⟨rfl, rfl⟩))
    exact ⟨rfl, hb, rfl⟩
/-- Find -/
def H.findO (hs : List H.Hd) (name : H.T) : H.T × Bool := match hs.find? (fun h => H.alike h.name name) with | some h => (h.value, true) | none => ([], false)
theorem H.idx_find (p : H.Hd → Bool) : ∀ (hs : List H.Hd) (k : Int), (H.idxFrom p k hs = -1 ∧ hs.find? p = none) ∨ ∃ (i : Nat) (h : H.Hd), H.idxFrom p k hs = k + (i : Int) ∧ hs[i]? = some h ∧ hs.find? p = some h
  | [], k => .inl ⟨rfl, rfl⟩
  | h :: t, k => by
    have e : H.idxFrom p k (h :: t) = if p h then k else H.idxFrom p (k + 1) t := rfl
    by_cases hp : p h = true
    · rw [if_pos hp] at e
      exact .inr ⟨0, h, by rw [e]; simp, rfl, by rw [List.find?_cons, hp]⟩
    · rw [if_neg hp] at e
      have e2 : (h :: t).find? p = t.find? p := by rw [List.find?_cons]; simp [hp]
      rw [e, e2]
      rcases H.idx_find p t (k + 1) with ⟨h1, h2⟩ | ⟨i, x, h1, h2, h3⟩
      · exact .inl ⟨h1, h2⟩
      · exact .inr ⟨i + 1, x, by rw [h1]; omega, h2, h3⟩
set_option maxHeartbeats 1000000 in
theorem find_any (w : World) (hs : List H.Hd) (name : H.T) (ad : Option Addr) (cap : Nat) (hH : Hds w ad hs) (hbig : Big hs) (hmx : hs.length ≤ 281474976710656) :
    Calls Tryz.prog 14 #[.slice ad hs.length cap, S name] w fun e w' => e = .returned (.tuple #[S (H.findO hs name).1, .bool (H.findO hs name).2]) ∧ Below w.heap.size w w' := by
  have hN := named_is w name
  have hI : ∀ (W : World) (g : Nat), Below w.heap.size w W → W.heap[g]? = some (.cells #[S name] 9 (0, 0)) → Calls Tryz.prog 39 #[.slice ad hs.length cap, .func (.func 69) #[] #[.pointer (some ⟨g, 0, none⟩)]] W fun e w' => e = .returned (.int .i64 (H.idxFrom (fun h => H.alike h.name name) 0 hs)) ∧ Below W.heap.size W w' := fun W g hb hg =>
    idx_any W hs ad cap (hH.under hb) hmx 69 #[.pointer (some ⟨g, 0, none⟩)] (fun h => H.alike h.name name) (fun args W => by kernel_rfl) (fun V h hm hbV => test_any V h.name h.value name g (blk_under hg hbV) (by have := (hbig h hm).1; omega))
  unfold H.findO
  rcases H.idx_find (fun h => H.alike h.name name) hs 0 with ⟨h1, h2⟩ | ⟨i, x, h1, h2, h3⟩
  · rw [h1] at hI
    rw [h2]
    clear h1 h2
    go_enter Tryz.func14, Tryz.ntmps14
    go_wp2_with fail
    refine hN.mono ?_
    rintro e w1 ⟨g, rfl, hg, hb⟩
    have HI := hI w1 g hb hg
    have Hb := Lib.hid hb
    clear hN hI hb hg
    go_wp2_with fail
    refine HI.mono ?_
    rintro e w2 ⟨rfl, hb2⟩
    have Hb2 := Lib.hid (Hb.out.trans (hb2.mono Hb.out.size))
    clear hb2 HI
    go_wp2
    go_ret2
    exact ⟨rfl, Hb2.out⟩
  · rw [h1, show (0 : Int) + (i : Int) = (i : Int) from by omega] at hI
    rw [h3]
    have hil : i < hs.length := (List.getElem?_eq_some_iff.1 h2).1
    have hne : hs ≠ [] := by rintro rfl; simp at hil
    have HH := Lib.hid hH
    clear h1 h3
    go_enter Tryz.func14, Tryz.ntmps14
    go_wp2_with fail
    refine hN.mono ?_
    rintro e w1 ⟨g, rfl, hg, hb⟩
    have HI := hI w1 g hb hg
    have Hb := Lib.hid hb
    clear hN hI hb hg
    go_wp2_with fail
    refine HI.mono ?_
    rintro e w2 ⟨rfl, hb2⟩
    have Hb2 := Lib.hid (Hb.out.trans (hb2.mono Hb.out.size))
    clear hb2 HI
    obtain ⟨g1, o1, rfl, hg1, k1⟩ := (HH.out.under Hb2.out) hne
    obtain ⟨p1, p2⟩ := k1 i x h2
    have hi0 : ¬ (i : Int) < 0 := by omega
    have hi1 : (i : Int) < (hs.length : Int) := by omega
    clear k1 HH h2 hH
    go_wp2
    go_ret2
    exact ⟨rfl, Hb2.out⟩
end Go.Proofs.YtjkinjfbjbehjaaGreatDoor

/- HTTP: THE WALKS OVER what ReadResponse does with a cursor, ReadResponse, SameResponse. -/
namespace Go.Proofs.YtjkinjfbjbehjaaGreatDoor
open Go.RowKit
set_option maxRecDepth 100000
set_option linter.unusedVariables false
set_option linter.unusedSimpArgs false

theorem frz3 {w : World} {g : Nat} {x0 x1 x2 : Value} {t : TypeId} (h : w.heap[g]? = some (.cells #[x0, x1, x2] t (0, 0))) : w.frozen? ⟨g, 0, none⟩ = false ∧ w.frozen? ⟨g, 1, none⟩ = false ∧ w.frozen? ⟨g, 2, none⟩ = false :=
  ⟨frozen_of_row w g 0 _ t h, frozen_of_row w g 1 _ t h, frozen_of_row w g 2 _ t h⟩
theorem put3 {W : World} {k : Nat} {x0 x1 x2 : Value} {t : TypeId} (h : W.heap[k]? = some (.cells #[x0, x1, x2] t (0, 0))) (v0 v1 v2 : Value) {V : World} (hV : V = ((W.setCell ⟨k, 0, none⟩ v0).setCell ⟨k, 1, none⟩ v1).setCell ⟨k, 2, none⟩ v2) :
    V.heap[k]? = some (.cells #[v0, v1, v2] t (0, 0)) ∧ W.grownBy V (some k) := by
  refine ⟨?_, ?_⟩
  · rw [hV]
    exact heap_setCell_same _ k 2 _ t _ (heap_setCell_same _ k 1 _ t _ (heap_setCell_same W k 0 _ t _ h))
  · rw [hV]
    exact ((set_grown1 W k 0 v0).trans (set_grown1 _ k 1 v1)).trans (set_grown1 _ k 2 v2)
/-- a response in a box -/
def SAt (w : World) (B k : Nat) (q : H.Rs) : Prop := ∃ v, w.heap[k]? = some (.cells (scells q.status v q.body) 29 (0, 0)) ∧ HRow w B v q.hs
theorem sat_stays (k : Nat) : Stays k (fun B q W => SAt W B k q) where
  on B q W W' h hs _ := by
    obtain ⟨v, h1, h2⟩ := h
    exact ⟨v, (hs k (blk_lt h1) (.inl rfl)).trans h1, row_same h2 (fun j hj hb => hs j hj (.inr hb))⟩
  low B B' q W hb h := by
    obtain ⟨v, h1, h2⟩ := h
    exact ⟨v, h1, row_base h2 hb⟩
theorem H.resR_ne {most : Int} {l : H.T} {c : Int} (h : H.resR most l = .error c) : c ≠ 0 := by
  unfold H.resR at h
  cases h1 : H.statusLine l with
  | error e =>
    rw [h1] at h; injection h with h; subst h
    unfold H.statusLine at h1
    cases h2 : H.line l with
    | error e => rw [h2] at h1; simp only at h1; injection h1 with h1; subst h1; exact H.line_ne h2
    | ok p =>
      obtain ⟨t, r⟩ := p
      rw [h2] at h1
      simp only at h1
      split at h1
      · split at h1
        · rename_i e' he
          injection h1 with h1
          subst h1
          unfold H.whole10 H.wholeO at he
          split at he
          · split at he
            · cases he
            · injection he with he; rw [← he]; decide
          · injection he with he; rw [← he]; decide
        · split at h1
          · cases h1
          · injection h1 with h1; rw [← h1]; decide
      · injection h1 with h1; rw [← h1]; decide
  | ok p =>
    obtain ⟨n, r⟩ := p
    rw [h1] at h
    simp only at h
    cases h2 : H.heads r with
    | error e => rw [h2] at h; injection h with h; rw [← h]; exact H.heads_ne h2
    | ok q =>
      obtain ⟨f, r2⟩ := q
      rw [h2] at h
      simp only at h
      split at h
      · cases h3 : H.body most f r2 with
        | error e => rw [h3] at h; injection h with h; rw [← h]; exact H.body_ne h3
        | ok q => rw [h3] at h; cases h
      · injection h with h; rw [← h]; decide
theorem H.resR_len {most : Int} {l r : H.T} {q : H.Rs} (h : H.resR most l = .ok (q, r)) : r.length < l.length := by
  unfold H.resR at h
  cases h1 : H.statusLine l with
  | error e => rw [h1] at h; cases h
  | ok p =>
    obtain ⟨n, r1⟩ := p
    have hl1 := H.statusLine_len h1
    rw [h1] at h
    simp only at h
    cases h2 : H.heads r1 with
    | error e => rw [h2] at h; cases h
    | ok q =>
      obtain ⟨f, r2⟩ := q
      have hl2 := (H.heads_ok h2).1
      rw [h2] at h
      simp only at h
      split at h
      · cases h3 : H.body most f r2 with
        | error e => rw [h3] at h; cases h
        | ok q =>
          obtain ⟨b, r3⟩ := q
          have hl3 := H.body_len h3
          rw [h3] at h
          injection h with h
          injection h with _ h
          rw [← h]
          omega
      · cases h
theorem H.headsF_many : ∀ (n : Nat) (f : H.Fr) (l : H.T) (f' : H.Fr) (r : H.T), H.headsF n f l = .ok (f', r) → f'.lens.length + f'.cods.length + r.length ≤ f.lens.length + f.cods.length + l.length
  | 0, f, l, f', r, h => by cases h
  | n + 1, f, l, f', r, h => by
    simp only [H.headsF] at h
    cases hl : H.line l with
    | error e => rw [hl] at h; cases h
    | ok p =>
      obtain ⟨t, r1⟩ := p
      rw [hl] at h
      simp only at h
      have hlen := H.line_len hl
      split at h
      · injection h with h
        injection h with h1 h2
        subst h1 h2
        omega
      · cases hd : H.head t with
        | error e => rw [hd] at h; cases h
        | ok hh =>
          rw [hd] at h
          simp only at h
          cases ha : H.addHead f hh with
          | error e => rw [ha] at h; cases h
          | ok f2 =>
            rw [ha] at h
            simp only at h
            have ih := H.headsF_many n f2 r1 f' r h
            have : f2.lens.length + f2.cods.length ≤ f.lens.length + f.cods.length + 1 := by
              unfold H.addHead at ha
              split at ha
              · injection ha with ha; rw [← ha]; simp; omega
              · split at ha
                · injection ha with ha; rw [← ha]; simp; omega
                · split at ha
                  · injection ha with ha; rw [← ha]; simp
                  · cases ha
            omega
theorem H.heads_many {l r : H.T} {f : H.Fr} (h : H.heads l = .ok (f, r)) : f.lens.length + f.cods.length ≤ l.length := by
  have := H.headsF_many _ _ _ _ _ h
  simp only [List.length_nil] at this
  omega
set_option maxHeartbeats 4000000 in
theorem res_any (w : World) (g k : Nat) (l : H.T) (most : Int) (hc : Crs w g l most) (hl : l.length ≤ 149533581377000) (hT : Tabs w) (h8 : 8 ≤ g) (hm : H.okMost most) (hk : w.heap[k]? = some (.cells #[.int .i64 0, .slice none 0 0, S []] 29 (0, 0))) (hgk : g ≠ k) :
    Calls Tryz.prog 35 #[.pointer (some ⟨g, 0, none⟩), .pointer (some ⟨k, 0, none⟩)] w (Did w g k most (H.resR most l) fun q w' => SAt w' w.heap.size k q) := by
  have hgl := hc.lt
  have hkl := blk_lt hk
  have HK := Lib.hid hk
  have HT := Lib.hid hT
  have Hm := Lib.hid hm
  obtain ⟨RR, hRR⟩ : ∃ R, H.resR most l = R := ⟨_, rfl⟩
  rw [hRR]
  have HR := Lib.hid hRR
  clear hRR
  have h27 := statusLine_any w g l most hc (by omega) hT h8
  clear hc hT hk hm
  cases hr : H.statusLine l with
  | error c =>
    have e1 : RR = .error c := by rw [← HR.out]; unfold H.resR; rw [hr]
    subst e1
    rw [hr] at h27
    go_enter Tryz.func35, Tryz.ntmps35
    go_wp2_with (refine h27.mono ?_; rintro e w1 ⟨hg, rfl⟩)
    exact ⟨rfl, hg, rfl⟩
  | ok p =>
    obtain ⟨st, r⟩ := p
    have hlen := H.statusLine_len hr
    have e1 : RR = match H.heads r with | .error e => .error e | .ok (f, r') => if 0 < f.lens.length + f.cods.length then (match H.body most f r' with | .error e => .error e | .ok (b, r'') => .ok (⟨st, f.hs, b⟩, r'')) else .error 13 := by
      rw [← HR.out]; unfold H.resR; rw [hr]
      simp only
      rcases H.heads r with e | ⟨f, r'⟩
      · rfl
      · simp only
        split
        · rcases H.body most f r' with e | ⟨b, r''⟩ <;> rfl
        · rfl
    have HE := Lib.hid e1
    clear e1 HR
    rw [hr] at h27
    go_enter Tryz.func35, Tryz.ntmps35
    go_wp2_with fail
    refine h27.mono ?_
    rintro e w1 ⟨hg, x, rfl, rfl, hc1⟩
    have HG1 := Lib.hid hg
    have HC1 := Lib.hid hc1
    have HT1 := Lib.hid (HT.out.grown hg h8 hgl)
    have HK1 := Lib.hid ((hg.block k hkl (fun e => hgk (by injection e with e; exact e.symm))).trans HK.out)
    have hz1 := hg.size
    clear hg hc1 h27 hr HT HK
    have h28 := heads_any w1 g r most HC1.out (by omega) HT1.out h8
    cases hh : H.heads r with
    | error c =>
      rw [hh] at h28
      have e1 := HE.out
      rw [hh] at e1
      simp only at e1
      subst e1
      go_wp2_with (refine h28.mono ?_; rintro e w2 ⟨hg2, rfl⟩)
      exact ⟨rfl, (HG1.out.trans hg2), rfl⟩
    | ok p =>
      obtain ⟨f, r2⟩ := p
      have hho := H.heads_ok hh
      have hmy := H.heads_many hh
      rw [hh] at h28
      go_wp2_with fail
      refine h28.mono ?_
      rintro e w2 ⟨hg2, x, rfl, ⟨v, lv, cv, rfl, rv, rl, rc⟩, hc2⟩
      have hgl1 : g < w1.heap.size := by omega
      have HG2 := Lib.hid (HG1.out.trans hg2)
      have HC2 := Lib.hid hc2
      have HT2 := Lib.hid (HT1.out.grown hg2 h8 hgl1)
      have HK2 := Lib.hid ((hg2.block k (by omega) (fun e => hgk (by injection e with e; exact e.symm))).trans HK1.out)
      have HV := Lib.hid rv
      have HL := Lib.hid rl
      have HCd := Lib.hid rc
      have hz2 := hg2.size
      clear hg2 hc2 rv rl rc h28 HG1 HC1 HT1 HK1
      obtain ⟨adl, capl, rfl⟩ := row_form HL.out
      obtain ⟨adc, capc, rfl⟩ := row_form HCd.out
      obtain ⟨W, hW⟩ : ∃ W, W = w2.alloc (.cells #[.slice adl f.lens.length capl, .slice adc f.cods.length capc] 57) := ⟨_, rfl⟩
      have hbW : Below w2.heap.size w2 W := by rw [hW]; exact (Below.refl _ w2).alloc (Nat.le_refl _) _
      have HF := Lib.hid (show W.heap[w2.heap.size]? = some (.cells #[.slice adl f.lens.length capl, .slice adc f.cods.length capc] 57 (0, 0)) from by rw [hW]; exact blk_new w2 _)
      have HG3 := Lib.hid (HG2.out.trans (below_grown hbW (some g)))
      have HC3 := Lib.hid (HC2.out.under hbW)
      have HT3 := Lib.hid (HT2.out.under hbW)
      have HK3 := Lib.hid (blk_under HK2.out hbW)
      have HV3 := Lib.hid (show HRow W (w1.heap.size + 4) v f.hs from row_below HV.out hbW)
      have HL3 := Lib.hid (show TRow W (w1.heap.size + 4) _ f.lens from row_below HL.out hbW)
      have HC3' := Lib.hid (show TRow W (w1.heap.size + 4) _ f.cods from row_below HCd.out hbW)
      have hz3 := hbW.size
      clear hbW HG2 HC2 HT2 HK2 HV HL HCd
      go_upto_region 2 with (fail)
      rw [← hW]
      clear hW
      obtain ⟨c0, c1⟩ := box2 HF.out
      have hlf := blk_lt HF.out
      have hms := mustSay_any W adl adc f.lens.length f.cods.length capl capc (by omega) (by omega)
      by_cases hpos : 0 < f.lens.length + f.cods.length
      · rw [if_pos hpos] at hms
        go_wp2_with fail
        refine hms.mono ?_
        rintro e W4 ⟨hb4, rfl⟩
        have HF4 := Lib.hid (blk_under HF.out hb4)
        have HG4 := Lib.hid (HG3.out.trans (below_grown hb4 (some g)))
        have HC4 := Lib.hid (HC3.out.under hb4)
        have HT4 := Lib.hid (HT3.out.under hb4)
        have HK4 := Lib.hid (blk_under HK3.out hb4)
        have HV4 := Lib.hid (show HRow W4 (w1.heap.size + 4) v f.hs from row_below HV3.out hb4)
        have HL4 := Lib.hid (show TRow W4 (w1.heap.size + 4) _ f.lens from row_below HL3.out hb4)
        have HC4' := Lib.hid (show TRow W4 (w1.heap.size + 4) _ f.cods from row_below HC3'.out hb4)
        have hz4 := hb4.size
        clear hb4 HG3 HC3 HT3 HK3 HV3 HL3 HC3' HF c0 c1 hms
        obtain ⟨c0, c1⟩ := box2 HF4.out
        have hlf4 := blk_lt HF4.out
        have h29 := body_any W4 g r2 most HC4.out (by omega) HT4.out h8 Hm.out f _ _ _ HL4.out HC4'.out hho.2
        cases hb : H.body most f r2 with
        | error c =>
          rw [hb] at h29
          have e1 := HE.out
          rw [hh] at e1
          simp only [if_pos hpos, hb] at e1
          subst e1
          go_wp2_with (refine h29.mono ?_; rintro e w4 ⟨hg4, rfl⟩)
          exact ⟨rfl, (HG4.out.trans hg4), rfl⟩
        | ok p =>
          obtain ⟨bd, r3⟩ := p
          rw [hb] at h29
          have e1 := HE.out
          rw [hh] at e1
          simp only [if_pos hpos, hb] at e1
          subst e1
          go_wp2_with fail
          refine h29.mono ?_
          rintro e w4 ⟨hg4, x, rfl, rfl, hc4⟩
          have hgl3 : g < W4.heap.size := by omega
          have HG5 := Lib.hid (HG4.out.trans hg4)
          have HC5 := Lib.hid hc4
          have HK5 := Lib.hid ((hg4.block k (by omega) (fun e => hgk (by injection e with e; exact e.symm))).trans HK4.out)
          have HV5 := Lib.hid (show HRow w4 (w1.heap.size + 4) v f.hs from row_far HV4.out hg4 (by omega))
          have hz5 := hg4.size
          clear hg4 hc4 h29 HG4 HC4 HT4 HK4 HV4 HL4 HC4' HF4 c0 c1 hlf hlf4
          obtain ⟨adv, capv, rfl⟩ := row_form HV5.out
          obtain ⟨q0, q1, q2⟩ := box3 HK5.out
          obtain ⟨y0, y1, y2⟩ := frz3 HK5.out
          have hlk := blk_lt HK5.out
          go_wp2
          obtain ⟨V, hV⟩ : ∃ V, V = ((w4.setCell ⟨k, 0, none⟩ (.int .i64 (st : Int))).setCell ⟨k, 1, none⟩ (.slice adv f.hs.length capv)).setCell ⟨k, 2, none⟩ (S bd) := ⟨_, rfl⟩
          rw [← hV]
          obtain ⟨hkV, hgV⟩ := put3 HK5.out _ _ _ hV
          clear hV q0 q1 q2 y0 y1 y2
          go_end0
          have hzV := hgV.size
          refine ⟨⟨hgV.os.trans HG5.out.os, hgV.tape.trans HG5.out.tape, hgV.output.trans HG5.out.output, by omega, fun j hj h1 h2 => (hgV.block j (by omega) (fun e => h2 (by injection e))).trans (HG5.out.block j hj (fun e => h1 (by injection e)))⟩, rfl, ⟨_, hkV, ?_⟩, ?_⟩
          · exact row_base (row_far HV5.out hgV (by omega)) (by omega)
          · exact (hgV.block g (by omega) (fun e => hgk (by injection e))).trans HC5.out
      · rw [if_neg hpos] at hms
        have e1 := HE.out
        rw [hh] at e1
        simp only [if_neg hpos] at e1
        subst e1
        go_wp2_with (refine hms.mono ?_; rintro e w4 ⟨hb4, rfl⟩)
        exact ⟨rfl, (HG3.out.trans (below_grown hb4 (some g))), rfl⟩
end Go.Proofs.YtjkinjfbjbehjaaGreatDoor

/- HTTP: THE WALKS OVER ReadResponse, SameResponse. -/
namespace Go.Proofs.YtjkinjfbjbehjaaGreatDoor
open Go.RowKit
set_option maxRecDepth 100000
set_option linter.unusedVariables false
set_option linter.unusedSimpArgs false

theorem H.readResponse_eq (l : H.T) (most : Int) : H.readResponse l most = match H.readR most (H.resR most l) l with | .ok (q, n) => (q, n, 0) | .error c => (⟨0, [], []⟩, 0, c) := by
  unfold H.readResponse H.readR
  split
  · rcases H.resR most l with e | ⟨q, r⟩ <;> rfl
  · rfl
/-- ReadResponse: what is handed out -/
def SOut (w : World) (B : Nat) (q : H.Rs) (x : Value) : Prop := ∃ v, x = .agg (scells q.status v q.body) ∧ HRow w B v q.hs
set_option maxHeartbeats 4000000 in
theorem readResponse_any (w : World) (l : H.T) (most : Int) (hmo : -9223372036854775808 ≤ most ∧ most ≤ 9223372036854775807) (hl : l.length ≤ 149533581377000) (hT : Tabs w) :
    Calls Tryz.prog 12 #[S l, .int .i64 most] w fun e w' => Below w.heap.size w w' ∧ ∃ x, e = .returned (.tuple #[x, .int .i64 ((H.readResponse l most).2.1 : Int), .int .i64 (H.readResponse l most).2.2]) ∧ SOut w' w.heap.size (H.readResponse l most).1 x := by
  obtain ⟨X, hX⟩ : ∃ X, X = (w.alloc (.cells #[.int .i64 0, .slice none 0 0, .string ⟨#[]⟩] 29)).alloc (.cells #[.int .i64 0, .slice none 0 0, .string ⟨#[]⟩] 29) := ⟨_, rfl⟩
  have hbX : Below w.heap.size w X := by rw [hX]; exact ((Below.refl _ w).alloc (Nat.le_refl _) _).alloc (by simp) _
  have hsz : X.heap.size = w.heap.size + 2 := by rw [hX]; simp
  have h0 : X.heap[w.heap.size]? = some (.cells #[.int .i64 0, .slice none 0 0, S []] 29 (0, 0)) := by rw [hX]; exact blk_alloc (blk_new w _) _
  have h1 : X.heap[w.heap.size + 1]? = some (.cells #[.int .i64 0, .slice none 0 0, S []] 29 (0, 0)) := by rw [hX]; exact blk_at (by simp)
  have hTX := hT.under hbX
  have h8 := hTX.sz
  have hrd := read_any X l most hmo 35 #[.pointer (some ⟨w.heap.size + 1, 0, none⟩)] (w.heap.size + 1) (H.resR most l) (fun B q W => SAt W B (w.heap.size + 1) q) hl (by omega) (fun a r' h => by have := H.resR_len h; omega) (fun c h => H.resR_ne h) (sat_stays _)
    (fun W g hb hg hgk hc hok => res_any W g (w.heap.size + 1) l most hc hl (hTX.under hb) (by omega) hok (blk_under h1 hb) hgk) (fun args W => by kernel_rfl)
  have H0 := Lib.hid h0
  have H1 := Lib.hid h1
  have HbX := Lib.hid hbX
  rw [H.readResponse_eq]
  clear hT hTX h0 h1 hbX
  cases hq : H.readR most (H.resR most l) l with
  | error c =>
    rw [hq] at hrd
    simp only at hrd ⊢
    clear hq
    go_enter Tryz.func12, Tryz.ntmps12
    go_upto_region 2 with (fail)
    rw [← hX]
    clear hX
    go_wp2_with fail
    refine hrd.mono ?_
    rintro e w3 ⟨hb3, rfl⟩
    have K0 := Lib.hid (blk_under H0.out hb3)
    have K1 := Lib.hid (blk_under H1.out hb3)
    have Hb3 := Lib.hid (HbX.out.trans (hb3.mono (by omega)))
    obtain ⟨a0, a1, a2⟩ := box3 K0.out
    obtain ⟨f0, f1, f2⟩ := frz3 K0.out
    obtain ⟨b0, b1, b2⟩ := box3 K1.out
    have hl0 := blk_lt K0.out
    have hl1 := blk_lt K1.out
    clear hb3 hrd
    go_wp2
    obtain ⟨V, hV⟩ : ∃ V, V = ((w3.setCell ⟨w.heap.size, 0, none⟩ (.int .i64 0)).setCell ⟨w.heap.size, 1, none⟩ (.slice none 0 0)).setCell ⟨w.heap.size, 2, none⟩ (S []) := ⟨_, rfl⟩
    rw [← hV]
    obtain ⟨hkV, hgV⟩ := put3 K0.out _ _ _ hV
    obtain ⟨k0, k1, k2⟩ := box3 hkV
    clear hV a0 a1 a2 f0 f1 f2 b0 b1 b2
    refine bodyPost_ret (by simp [results, Tryz.results12, go_sem, k0, k1, k2]; try rfl) rfl ?_
    exact ⟨grown_below Hb3.out hgV (Nat.le_refl _) hl0, _, rfl, _, rfl, hrow_nil _ _⟩
  | ok p =>
    obtain ⟨q, n⟩ := p
    rw [hq] at hrd
    simp only at hrd ⊢
    clear hq
    go_enter Tryz.func12, Tryz.ntmps12
    go_upto_region 2 with (fail)
    rw [← hX]
    clear hX
    go_wp2_with fail
    refine hrd.mono ?_
    rintro e w3 ⟨ht3, rfl, B, hB, ⟨v, hkq, hv⟩⟩
    have hz3 := ht3.size
    have K0 := Lib.hid ((ht3.block w.heap.size (by omega) (by omega) (by omega)).trans H0.out)
    have K1 := Lib.hid hkq
    have Hb3 := Lib.hid (show Below w.heap.size w w3 from ⟨ht3.os.trans HbX.out.os, ht3.tape.trans HbX.out.tape, ht3.output.trans HbX.out.output, by omega, fun j hj => (ht3.block j (by omega) (by omega) (by omega)).trans (HbX.out.block j hj)⟩)
    have HV := Lib.hid hv
    clear ht3 hkq hv hrd
    obtain ⟨adv, capv, rfl⟩ := row_form HV.out
    obtain ⟨a0, a1, a2⟩ := box3 K0.out
    obtain ⟨f0, f1, f2⟩ := frz3 K0.out
    obtain ⟨b0, b1, b2⟩ := box3 (show w3.heap[w.heap.size + 1]? = some (.cells #[.int .i64 (q.status : Int), .slice adv q.hs.length capv, S q.body] 29 (0, 0)) from K1.out)
    have hl0 := blk_lt K0.out
    have hl1 := blk_lt K1.out
    go_wp2
    obtain ⟨V, hV⟩ : ∃ V, V = ((w3.setCell ⟨w.heap.size, 0, none⟩ (.int .i64 (q.status : Int))).setCell ⟨w.heap.size, 1, none⟩ (.slice adv q.hs.length capv)).setCell ⟨w.heap.size, 2, none⟩ (S q.body) := ⟨_, rfl⟩
    rw [← hV]
    obtain ⟨hkV, hgV⟩ := put3 K0.out _ _ _ hV
    obtain ⟨k0, k1, k2⟩ := box3 hkV
    clear hV a0 a1 a2 f0 f1 f2 b0 b1 b2
    refine bodyPost_ret (by simp [results, Tryz.results12, go_sem, k0, k1, k2]; try rfl) rfl ?_
    exact ⟨grown_below Hb3.out hgV (Nat.le_refl _) hl0, _, rfl, _, rfl, row_base (row_far HV.out hgV (by omega)) (by omega)⟩
/-- what a reading hands out -/
theorem rs_any (w : World) (l : H.T) (most : Int) (hm : -9223372036854775808 ≤ most ∧ most ≤ 9223372036854775807) (hl : l.length ≤ 149533581377000) (hT : Tabs w) (q : H.Rs) (n : Nat) (c : Int) (he : H.readResponse l most = (q, n, c)) :
    Calls Tryz.prog 12 #[S l, .int .i64 most] w fun e w' => Below w.heap.size w w' ∧ ∃ ad k cap, e = .returned (.tuple #[.agg #[.int .i64 (q.status : Int), .slice ad k cap, S q.body], .int .i64 (n : Int), .int .i64 c]) ∧ k = q.hs.length ∧ Hds w' ad q.hs := by
  refine (readResponse_any w l most hm hl hT).mono fun e w' h => ?_
  rw [he] at h
  obtain ⟨hb, x, hx, v, rfl, hv⟩ := h
  obtain ⟨ad, cap, rfl⟩ := row_form hv
  obtain ⟨_, h2⟩ := HRow.hds hv
  exact ⟨hb, ad, _, cap, hx, rfl, h2⟩
set_option maxHeartbeats 2000000 in
theorem sameRes_any (w : World) (st : Int) (b : H.T) (hs : List H.Hd) (a1 a2 : Option Addr) (n1 n2 c1 c2 : Nat) (hn1 : n1 = hs.length) (hn2 : n2 = hs.length) (hmx : hs.length ≤ 64) (h1 : Hds w a1 hs) (h2 : Hds w a2 hs) :
    Calls Tryz.prog 18 #[.agg #[.int .i64 st, .slice a1 n1 c1, S b], .agg #[.int .i64 st, .slice a2 n2 c2, S b]] w fun e w' => e = .returned (.bool true) ∧ Below w.heap.size w w' := by
  subst hn1 hn2
  obtain ⟨X, hX⟩ : ∃ X, X = (w.alloc (.cells #[.int .i64 st, .slice a1 hs.length c1, S b] 29)).alloc (.cells #[.int .i64 st, .slice a2 hs.length c2, S b] 29) := ⟨_, rfl⟩
  have hbX : Below w.heap.size w X := by rw [hX]; exact ((Below.refl _ w).alloc (Nat.le_refl _) _).alloc (by simp) _
  have k0 : X.heap[w.heap.size]? = some (.cells #[.int .i64 st, .slice a1 hs.length c1, S b] 29 (0, 0)) := by rw [hX]; exact blk_alloc (blk_new w _) _
  have k1 : X.heap[w.heap.size + 1]? = some (.cells #[.int .i64 st, .slice a2 hs.length c2, S b] 29 (0, 0)) := by rw [hX]; exact blk_at (by simp)
  obtain ⟨x0, x1, x2⟩ := box3 k0
  obtain ⟨y0, y1, y2⟩ := box3 k1
  have hl0 := blk_lt k0
  have hl1 := blk_lt k1
  have hsm := same_any X hs a1 a2 c1 c2 hmx (h1.under hbX) (h2.under hbX)
  have HbX := Lib.hid hbX
  clear hbX h1 h2 k0 k1
  go_enter Tryz.func18, Tryz.ntmps18
  go_upto_region 1 with (fail)
  rw [← hX]
  clear hX
  go_wp2_with (go_at_call 24; with_reducible refine hsm.mono ?_; rintro e w2 ⟨rfl, n, rfl⟩; have HB := Lib.hid (HbX.out.trans ((below_drewN' X n).mono HbX.out.size)))
  go_ret
  exact ⟨rfl, HB.out⟩
end Go.Proofs.YtjkinjfbjbehjaaGreatDoor

/- HTTP: THE WALK OVER HttpBits. -/
namespace Go.Proofs.YtjkinjfbjbehjaaGreatDoor
open Go.RowKit
set_option maxRecDepth 100000
set_option linter.unusedVariables false
set_option linter.unusedSimpArgs false

/-- what a reading hands out -/
theorem rd_any (w : World) (l : H.T) (most : Int) (hm : -9223372036854775808 ≤ most ∧ most ≤ 9223372036854775807) (hl : l.length ≤ 149533581377000) (hT : Tabs w) (q : H.Rq) (n : Nat) (c : Int) (he : H.readRequest l most = (q, n, c)) :
    Calls Tryz.prog 10 #[S l, .int .i64 most] w fun e w' => Below w.heap.size w w' ∧ ∃ ad k cap, e = .returned (.tuple #[.agg #[S q.method, S q.target, .slice ad k cap, S q.body], .int .i64 (n : Int), .int .i64 c]) ∧ k = q.hs.length ∧ Hds w' ad q.hs := by
  refine (readRequest_any w l most hm hl hT).mono fun e w' h => ?_
  rw [he] at h
  obtain ⟨hb, x, hx, v, rfl, hv⟩ := h
  obtain ⟨ad, cap, rfl⟩ := row_form hv
  obtain ⟨_, h2⟩ := HRow.hds hv
  exact ⟨hb, ad, _, cap, hx, rfl, h2⟩
section
variable (w : World) (s b : H.T) (most at_ : Int)
set_option maxHeartbeats 2000000 in
theorem bits_range (hm : -9223372036854775808 ≤ most ∧ most ≤ 9223372036854775807) (hl : s.length + b.length ≤ 149533581377000) (hT : Tabs w) (he : H.readRequest s most = (⟨[], [], [], []⟩, 0, 2)) :
    Calls Tryz.prog 6 #[S s, .int .i64 most, .int .i64 at_, S b] w fun e w' => e = .returned (.bool true) ∧ Below w.heap.size w w' := by
  have hr := fun w hT => rd_any w s most hm (by omega) hT ⟨[], [], [], []⟩ 0 2 he
  have HT := Lib.hid hT
  have HR := Lib.hid hr
  clear hT hr he
  go_enter Tryz.func6, Tryz.ntmps6
  go_wp2_with fail
  refine (lives_any w HT.out).mono ?_
  rintro e w1 ⟨rfl, hb1⟩
  have HT1 := Lib.hid (HT.out.under hb1)
  have HB1 := Lib.hid hb1
  clear hb1 HT
  go_wp2_with fail
  with_reducible refine (HR.out _ HT1.out).mono ?_
  rintro e w2 ⟨hb2, ad, k, cap, rfl, hk, hd⟩
  obtain rfl : k = 0 := hk
  have HB2 := Lib.hid (HB1.out.trans (hb2.mono HB1.out.size))
  clear hb2 HT1 hd
  obtain ⟨X, hX⟩ : ∃ X, X = w2.alloc (.cells #[S [], S [], .slice ad 0 cap, S []] 24) := ⟨_, rfl⟩
  have hbX : Below w2.heap.size w2 X := by rw [hX]; exact (Below.refl _ w2).alloc (Nat.le_refl _) _
  have HX := Lib.hid (HB2.out.trans (hbX.mono HB2.out.size))
  go_upto_region 4 with (fail)
  rw [← hX]
  clear hX
  go_wp2
  go_ret
  exact ⟨rfl, HX.out⟩
set_option maxHeartbeats 2000000 in
theorem bits_bad (hm : -9223372036854775808 ≤ most ∧ most ≤ 9223372036854775807) (hl : s.length + b.length ≤ 149533581377000) (hT : Tabs w) (c : Int) (q : H.Rq) (n : Nat) (d : Int) (h0 : c ≠ 0) (h2 : c ≠ 2)
    (he : H.readRequest s most = (⟨[], [], [], []⟩, 0, c)) (h3 : H.readRequest (s ++ b) most = (q, n, d)) (h4 : c = 14 ∨ d = c) :
    Calls Tryz.prog 6 #[S s, .int .i64 most, .int .i64 at_, S b] w fun e w' => e = .returned (.bool true) ∧ Below w.heap.size w w' := by
  have hr := fun w hT => rd_any w s most hm (by omega) hT _ _ _ he
  have hr2 := fun w hT => rd_any w (s ++ b) most hm (by rw [List.length_append]; omega) hT _ _ _ h3
  have hsb : (⟨s.toArray⟩ : ByteArray) ++ ⟨b.toArray⟩ = ⟨(s ++ b).toArray⟩ := S_app s b
  have HT := Lib.hid hT
  have HR := Lib.hid hr
  have HR2 := Lib.hid hr2
  have H4 := Lib.hid h4
  clear hT hr hr2 h4 he h3
  go_enter Tryz.func6, Tryz.ntmps6
  go_wp2_with fail
  refine (lives_any w HT.out).mono ?_
  rintro e w1 ⟨rfl, hb1⟩
  have HT1 := Lib.hid (HT.out.under hb1)
  have HB1 := Lib.hid hb1
  clear hb1 HT
  go_wp2_with fail
  with_reducible refine (HR.out _ HT1.out).mono ?_
  rintro e w2 ⟨hb2, ad, k, cap, rfl, hk, hd⟩
  obtain rfl : k = 0 := hk
  have HB2 := Lib.hid (HB1.out.trans (hb2.mono HB1.out.size))
  have HT2 := Lib.hid (HT1.out.under hb2)
  clear hb2 HT1 hd HR
  obtain ⟨X, hX⟩ : ∃ X, X = w2.alloc (.cells #[S [], S [], .slice ad 0 cap, S []] 24) := ⟨_, rfl⟩
  have hbX : Below w2.heap.size w2 X := by rw [hX]; exact (Below.refl _ w2).alloc (Nat.le_refl _) _
  have HX := Lib.hid (HB2.out.trans (hbX.mono HB2.out.size))
  have HTX := Lib.hid (HT2.out.under hbX)
  clear hbX HT2
  go_upto_region 4 with (fail)
  rw [← hX]
  clear hX
  go_wp2_with fail
  with_reducible refine (HR2.out _ HTX.out).mono ?_
  rintro e w3 ⟨hb3, ad3, k3, cap3, rfl, rfl, hd3⟩
  have HB3 := Lib.hid (HX.out.trans (hb3.mono HX.out.size))
  clear hb3 hd3 HTX HR2
  obtain ⟨Y, hY⟩ : ∃ Y, Y = w3.alloc (.cells #[S q.method, S q.target, .slice ad3 q.hs.length cap3, S q.body] 24) := ⟨_, rfl⟩
  have hbY : Below w3.heap.size w3 Y := by rw [hY]; exact (Below.refl _ w3).alloc (Nat.le_refl _) _
  have HY := Lib.hid (HB3.out.trans (hbY.mono HB3.out.size))
  clear hbY
  go_upto_region 15 with (fail)
  rw [← hY]
  clear hY
  by_cases h14 : c = 14
  · subst h14
    go_wp2
    go_ret
    exact ⟨rfl, HY.out⟩
  · have hdc := (H4.out).resolve_left h14
    subst hdc
    go_wp2
    go_ret
    exact ⟨rfl, HY.out⟩
set_option maxHeartbeats 4000000 in
theorem bits_ok (hm : -9223372036854775808 ≤ most ∧ most ≤ 9223372036854775807) (ha : -9223372036854775808 ≤ at_ ∧ at_ ≤ 9223372036854775807) (hl : s.length + b.length ≤ 149533581377000) (hT : Tabs w) (q : H.Rq) (n : Nat) (hn : n ≤ s.length) (hmx : q.hs.length ≤ 64)
    (he : H.readRequest s most = (q, n, 0)) (h3 : H.readRequest (s ++ b) most = (q, n, 0)) (h4 : ∀ k, k < n → (H.readRequest (s.take k) most).2.2 = 14) :
    Calls Tryz.prog 6 #[S s, .int .i64 most, .int .i64 at_, S b] w fun e w' => e = .returned (.bool true) ∧ Below w.heap.size w w' := by
  have hr := fun w hT => rd_any w s most hm (by omega) hT _ _ _ he
  have hr2 := fun w hT => rd_any w (s ++ b) most hm (by rw [List.length_append]; omega) hT _ _ _ h3
  have hr3 : ∀ k : Nat, k < n → ∀ w, Tabs w → Calls Tryz.prog 10 #[S (s.take k), .int .i64 most] w fun e w' => Below w.heap.size w w' ∧ ∃ v x, e = .returned (.tuple #[v, .int .i64 x, .int .i64 14]) := fun k hk w hT => by
    obtain ⟨q', n', c', e'⟩ : ∃ q' n' c', H.readRequest (s.take k) most = (q', n', c') := ⟨_, _, _, rfl⟩
    have hc := h4 k hk
    rw [e'] at hc
    simp only at hc
    subst hc
    refine (rd_any w (s.take k) most hm (by rw [List.length_take]; omega) hT _ _ _ e').mono fun e w' h => ?_
    obtain ⟨hb, _, _, _, hx, _⟩ := h
    exact ⟨hb, _, _, hx⟩
  have hsb : (⟨s.toArray⟩ : ByteArray) ++ ⟨b.toArray⟩ = ⟨(s ++ b).toArray⟩ := S_app s b
  obtain ⟨y, hy⟩ : ∃ y : Int, ((s.length : Nat) : Int) = y := ⟨_, rfl⟩
  obtain ⟨z, hz⟩ : ∃ z : Int, ((n : Nat) : Int) = z := ⟨_, rfl⟩
  have hzy : ¬ y < z := by omega
  have hyl : y ≤ 149533581377000 := by omega
  rw [hz] at hr hr2
  have HT := Lib.hid hT
  have HR := Lib.hid hr
  have HR2 := Lib.hid hr2
  have HR3 := Lib.hid hr3
  have Hm := Lib.hid hmx
  clear hT hr hr2 hr3 h4 he h3 hmx
  go_enter Tryz.func6, Tryz.ntmps6
  go_wp2_with fail
  refine (lives_any w HT.out).mono ?_
  rintro e w1 ⟨rfl, hb1⟩
  have HT1 := Lib.hid (HT.out.under hb1)
  have HB1 := Lib.hid hb1
  clear hb1 HT
  go_wp2_with fail
  with_reducible refine (HR.out _ HT1.out).mono ?_
  rintro e w2 ⟨hb2, ad, k, cap, rfl, rfl, hd⟩
  have HB2 := Lib.hid (HB1.out.trans (hb2.mono HB1.out.size))
  have HT2 := Lib.hid (HT1.out.under hb2)
  obtain ⟨X, hX⟩ : ∃ X, X = w2.alloc (.cells #[S q.method, S q.target, .slice ad q.hs.length cap, S q.body] 24) := ⟨_, rfl⟩
  have hbX : Below w2.heap.size w2 X := by rw [hX]; exact (Below.refl _ w2).alloc (Nat.le_refl _) _
  have K1 := Lib.hid (show X.heap[w2.heap.size]? = some (.cells #[S q.method, S q.target, .slice ad q.hs.length cap, S q.body] 24 (0, 0)) from by rw [hX]; exact blk_new w2 _)
  have HX := Lib.hid (HB2.out.trans (hbX.mono HB2.out.size))
  have HTX := Lib.hid (HT2.out.under hbX)
  have D1 := Lib.hid (hd.under hbX)
  clear hbX HT2 hb2 HT1 hd HR
  go_upto_region 4 with (fail)
  rw [← hX]
  clear hX
  go_wp2_with fail
  with_reducible refine (HR2.out _ HTX.out).mono ?_
  rintro e w3 ⟨hb3, ad3, k3, cap3, rfl, rfl, hd3⟩
  have HB3 := Lib.hid (HX.out.trans (hb3.mono HX.out.size))
  have HT3 := Lib.hid (HTX.out.under hb3)
  have D2 := Lib.hid (D1.out.under hb3)
  have K2 := Lib.hid (blk_under K1.out hb3)
  obtain ⟨Y, hY⟩ : ∃ Y, Y = w3.alloc (.cells #[S q.method, S q.target, .slice ad3 q.hs.length cap3, S q.body] 24) := ⟨_, rfl⟩
  have hbY : Below w3.heap.size w3 Y := by rw [hY]; exact (Below.refl _ w3).alloc (Nat.le_refl _) _
  have hk3 : Y.heap[w3.heap.size]? = some (.cells #[S q.method, S q.target, .slice ad3 q.hs.length cap3, S q.body] 24 (0, 0)) := by rw [hY]; exact blk_new w3 _
  have hk2 := blk_under K2.out hbY
  have HY := Lib.hid (HB3.out.trans (hbY.mono HB3.out.size))
  have HTY := Lib.hid (HT3.out.under hbY)
  have hsm := sameReq_any Y q.method q.target q.body q.hs ad3 ad _ _ cap3 cap rfl rfl Hm.out (hd3.under hbY) (D2.out.under hbY)
  obtain ⟨x0, x1, x2, x3⟩ := box4 hk3
  obtain ⟨y0, y1, y2, y3⟩ := box4 hk2
  have hl0 := blk_lt hk3
  have hl1 := blk_lt hk2
  have HS := Lib.hid hsm
  clear hb3 hd3 HTX HR2 hbY D1 D2 K1 K2 HT3 hsm hk3 hk2
  go_upto_region 8 with (fail)
  rw [← hY]
  clear hY
  go_upto_region 10 with (go_at_call 17; with_reducible refine HS.out.mono ?_; rintro e w4 ⟨rfl, hb4⟩; have H4 := Lib.hid (HY.out.trans (hb4.mono HY.out.size)); have HT4 := Lib.hid (HTY.out.under hb4); clear hb4)
  by_cases h0 : at_ < 0
  · go_wp2
    go_ret
    exact ⟨rfl, H4.out⟩
  · by_cases h1 : z ≤ at_
    · have h1' : ¬ at_ < z := by omega
      go_wp2
      go_ret
      exact ⟨rfl, H4.out⟩
    · have h1' : at_ < z := by omega
      obtain ⟨k, rfl⟩ : ∃ k : Nat, at_ = (k : Int) := ⟨at_.toNat, by omega⟩
      have hk := HR3.out k (by omega)
      have hky : (k : Int) ≤ y := by omega
      have hks : k ≤ s.length := by omega
      go_wp2_with fail
      rw [ext_take]
      with_reducible refine (hk _ HT4.out).mono ?_
      rintro e w5 ⟨hb5, v5, x5, rfl⟩
      have H5 := Lib.hid (H4.out.trans (hb5.mono H4.out.size))
      clear hb5
      go_wp2
      go_ret
      exact ⟨rfl, H5.out⟩
end
theorem bits_any (w : World) (s1 s2 : ByteArray) (most at_ : Int) (hm : -9223372036854775808 ≤ most ∧ most ≤ 9223372036854775807) (ha : -9223372036854775808 ≤ at_ ∧ at_ ≤ 9223372036854775807) (hl : s1.size + s2.size ≤ 149533581377000) (hT : Tabs w) :
    Calls Tryz.prog 6 #[.string s1, .int .i64 most, .int .i64 at_, .string s2] w fun e w' => e = .returned (.bool true) ∧ Below w.heap.size w w' := by
  obtain ⟨s, rfl⟩ : ∃ l : H.T, s1 = ⟨l.toArray⟩ := ⟨s1.data.toList, (S_data s1).symm⟩
  obtain ⟨b, rfl⟩ : ∃ l : H.T, s2 = ⟨l.toArray⟩ := ⟨s2.data.toList, (S_data s2).symm⟩
  rw [S_size, S_size] at hl
  by_cases ho : H.okMost most
  · cases hq : H.reqR most s with
    | ok p =>
      obtain ⟨q, r⟩ := p
      obtain ⟨h1, h2, h3, h4⟩ := H.bits_more s b most ho q r hq
      exact bits_ok w s b most at_ hm ha hl hT q _ (by omega) (H.req_most hq) h1 h3 h4
    | error c =>
      have he : H.readRequest s most = (⟨[], [], [], []⟩, 0, c) := by unfold H.readRequest; rw [if_pos ho, hq]
      have hc := H.reqR_ne hq
      by_cases h2 : c = 2
      · subst h2
        exact bits_range w s b most at_ hm hl hT he
      obtain ⟨q, n, d, h3⟩ : ∃ q n d, H.readRequest (s ++ b) most = (q, n, d) := ⟨_, _, _, rfl⟩
      refine bits_bad w s b most at_ hm hl hT c q n d hc h2 he h3 ?_
      by_cases h14 : c = 14
      · exact .inl h14
      · have := H.bits_bad s b most ho c hq h14
        rw [h3] at this
        exact .inr this
  · exact bits_range w s b most at_ hm hl hT (by unfold H.readRequest; rw [if_neg ho])
end Go.Proofs.YtjkinjfbjbehjaaGreatDoor
