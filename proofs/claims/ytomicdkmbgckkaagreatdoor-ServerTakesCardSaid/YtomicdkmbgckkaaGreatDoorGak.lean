/- HTTP: THE WALK OVER chunks. -/
import Derived.Test.YtomicdkmbgckkaaGreatDoorGaj
namespace Go.Proofs.YtomicdkmbgckkaaGreatDoor
open Go.RowKit
set_option maxRecDepth 100000
set_option linter.unusedVariables false
set_option linter.unusedSimpArgs false

theorem read_grown {α : Type} {w W w' : World} {g : Nat} {most : Int} {r : H.R α} {V V' : α → World → Value → Prop} {e : Ending} (hg : w.grownBy W (some g)) (h : Read W g most r V e w') (hV : ∀ a x v, V a x v → V' a x v) : Read w g most r V' e w' := by
  obtain ⟨h1, h2⟩ := h
  refine ⟨hg.trans h1, ?_⟩
  cases r with
  | error c => exact h2
  | ok p => obtain ⟨v, e1, e2, e3⟩ := h2; exact ⟨v, e1, hV _ _ _ e2, e3⟩
set_option maxHeartbeats 4000000 in
theorem chunks_any (w : World) (g : Nat) (l : H.T) (most : Int) (hc : Crs w g l most) (hl : l.length ≤ 149533581377000) (hT : Tabs w) (h8 : 8 ≤ g) (hm : H.okMost most) :
    Calls Tryz.prog 38 #[.pointer (some ⟨g, 0, none⟩)] w (Read w g most (H.chunks most l) fun t _ v => v = S t) := by
  obtain ⟨X, hX⟩ : ∃ X, X = w.alloc (.cells #[.pointer none, .slice none 0 0] 111) := ⟨_, rfl⟩
  have hbX : Below w.heap.size w X := by rw [hX]; exact (Below.refl _ w).alloc (Nat.le_refl _) _
  have HX := Lib.hid (CS.mk (below_grown hbX (some g)) hc.lt h8 (hc.under hbX) (show IsB w.heap.size w.heap.size [] X from by rw [hX]; exact Lib.fresh_isBuilder 111 5 w) (hT.under hbX))
  have hv : H.chunks most l = match H.chunkSize l with | .error e => .error e | .ok (n, r) => H.chunksG most l.length [] n r := H.chunksF_succ _ _ _ _
  rw [hv]
  clear hv hc hT hbX
  cases hr : H.chunkSize l with
  | error c =>
    have hq := chunkSize_err HX.out.c (by omega) HX.out.t h8 hr
    simp only
    clear hr
    go_enter Tryz.func38, Tryz.ntmps38
    go_upto_region 2 with (fail)
    rw [← hX]
    clear hX
    go_wp2_with (refine hq.mono ?_; rintro e w1 ⟨rfl, hg⟩)
    exact ⟨rfl, Read.err (HX.out.gr.trans hg)⟩
  | ok p =>
    obtain ⟨n0, r0⟩ := p
    have hq := chunkSize_ok HX.out.c (by omega) HX.out.t h8 hr
    have hlen := H.chunkSize_len hr
    have hn0 := H.chunkSize_lt hr
    simp only
    clear hr
    go_enter Tryz.func38, Tryz.ntmps38
    go_upto_region 2 with (fail)
    rw [← hX]
    clear hX
    go_wp2_with fail
    refine hq.mono ?_
    rintro e w1 ⟨rfl, hg, hc1⟩
    have H1 := Lib.hid (HX.out.step hg hc1)
    clear hg hc1 hq HX
    go_wp2
    go_loopw [4] (fun s wr => ∃ (n k : Nat) (acc r : H.T), s = .int .u64 (n : Int) ∧ n < 4294967296 ∧ r.length < k ∧ r.length ≤ l.length ∧ H.chunksG most k acc n r = H.chunksG most l.length [] n0 r0 ∧ CS w wr g most acc r ∧ (acc.length : Int) ≤ most) (fun _ wr => leftOf g wr)
    case atStart => exact ⟨n0, l.length, [], r0, rfl, hn0, hlen, by omega, rfl, H1.out, by simpa using hm.1⟩
    case round =>
      clear H1
      obtain ⟨n, k, acc, r, rfl, hn, hk, hrl, he, hs, ham⟩ := hrel
      have HS0 := Lib.hid hs
      have Hleft := Lib.hid hs.c.left
      clear hs
      by_cases h0 : n = 0
      · subst h0
        have hh := heads_any wr g r most HS0.out.c (by omega) HS0.out.t h8
        have hG : H.chunksG most k acc 0 r = match H.heads r with | .error e => .error e | .ok (_, r') => .ok (acc, r') := by unfold H.chunksG; rw [if_pos rfl]; cases H.heads r <;> rfl
        rw [hG] at he
        clear hG
        cases hd : H.heads r with
        | error c =>
          rw [hd] at he hh
          simp only at he
          have he' := he.symm
          clear he hd
          go_wp2_with (go_at_call 22; refine hh.mono ?_; rintro e w2 ⟨hg2, rfl⟩)
          rw [he']
          exact ⟨rfl, Read.err (HS0.out.gr.trans hg2)⟩
        | ok p =>
          obtain ⟨f, r2⟩ := p
          rw [hd] at he hh
          simp only at he
          have he' := he.symm
          clear he hd
          go_wp2_with fail
          refine hh.mono ?_
          rintro e w2 ⟨hg2, x, rfl, _, hc2⟩
          have HS2 := Lib.hid (HS0.out.step hg2 hc2)
          clear hg2 hc2 hh HS0
          have hst := Tryz.Builder_String_any w.heap.size w.heap.size acc w2 HS2.out.b (by have := HS2.out.sz; omega)
          go_wp2_with fail
          refine hst.mono ?_
          rintro e w3 ⟨rfl, hb3⟩
          have hgl := HS2.out.gl
          have hg3 : w.grownBy w3 (some g) := ⟨hb3.os.trans HS2.out.gr.os, hb3.tape.trans HS2.out.gr.tape, hb3.output.trans HS2.out.gr.output, Nat.le_trans HS2.out.gr.size hb3.size, fun k hk hne => (hb3.block k hk).trans (HS2.out.gr.block k hk hne)⟩
          have hc3 : Crs w3 g r2 most := (hb3.block _ hgl).trans HS2.out.c
          go_wp2
          go_ret
          rw [he']
          exact Read.ok hg3 rfl hc3
      · have hnp : (0 : Int) < (n : Int) := by omega
        have hG : H.chunksG most k acc n r = match H.part most n acc.length r with
            | .error e => .error e
            | .ok (p, r') => match H.endR r' with
              | .error e => .error e
              | .ok (_, r'') => H.chunksF most k (acc ++ p) r'' := by
          unfold H.chunksG
          rw [if_neg h0]
          rcases H.part most n acc.length r with e | ⟨p, r'⟩
          · rfl
          · simp only
            rcases H.endR r' with e | ⟨_, r''⟩ <;> rfl
        rw [hG] at he
        have hlen1 := Tryz.Builder_Len w.heap.size w.heap.size (Lib.byteCells acc) wr HS0.out.b
        rw [show ((Lib.byteCells acc).length : Int) = (acc.length : Int) from by simp [Lib.byteCells]] at hlen1
        have hp := part_any wr g r most HS0.out.c (by omega) hm n acc.length (by omega) ham
        have Hm := Lib.hid hm
        clear hG
        cases hd : H.part most n acc.length r with
        | error c =>
          rw [hd] at he hp
          simp only at he
          have he' := he.symm
          clear he hd
          go_wp2_with (first | (go_at_call 64; refine hlen1.mono ?_; rintro e w2 ⟨rfl, rfl⟩) | (go_at_call 39; refine hp.mono ?_; rintro e w2 ⟨hg2, rfl⟩))
          rw [he']
          exact ⟨rfl, Read.err (HS0.out.gr.trans hg2)⟩
        | ok p =>
          obtain ⟨pt, r2⟩ := p
          rw [hd] at he hp
          simp only at he
          have hpl : pt.length + r2.length = r.length ∧ (acc.length + pt.length : Int) ≤ most := by
            unfold H.part at hd
            split at hd
            · cases hd
            · split at hd
              · cases hd
              · rename_i a1 a2
                injection hd with hd
                injection hd with d1 d2
                rw [← d1, ← d2, List.length_take, List.length_drop]
                omega
          clear hd
          go_wp2_with (first | (go_at_call 64; refine hlen1.mono ?_; rintro e w2 ⟨rfl, rfl⟩) | fail)
          refine hp.mono ?_
          rintro e w2 ⟨hg2, x, rfl, rfl, hc2⟩
          have HS2 := Lib.hid (HS0.out.step hg2 hc2)
          clear hg2 hc2 hp hlen1 HS0
          have hws := write_str w.heap.size w.heap.size acc pt w2 HS2.out.b (by have := Hm.out.2; omega) (by have := HS2.out.sz; omega)
          go_wp2_with fail
          refine hws.mono ?_
          rintro e w3 ⟨rfl, hB3, hb3⟩
          have HS3 := Lib.hid (HS2.out.put hb3 hB3)
          clear hB3 hb3 hws HS2
          have hen := end_any w3 g r2 most HS3.out.c (by omega)
          cases hd : H.endR r2 with
          | error c =>
            rw [hd] at he hen
            simp only at he
            have he' := he.symm
            clear he hd
            go_wp2_with (refine hen.mono ?_; rintro e w4 ⟨hg4, rfl⟩)
            rw [he']
            exact ⟨rfl, Read.err (HS3.out.gr.trans hg4)⟩
          | ok p =>
            obtain ⟨_, r3⟩ := p
            have hel := H.end_len hd
            rw [hd] at he hen
            simp only at he
            clear hd
            obtain ⟨m, rfl⟩ : ∃ m, k = m + 1 := ⟨k - 1, by omega⟩
            rw [H.chunksF_succ] at he
            go_wp2_with fail
            refine hen.mono ?_
            rintro e w4 ⟨hg4, x4, rfl, rfl, hc4⟩
            have HS4 := Lib.hid (HS3.out.step hg4 hc4)
            clear hg4 hc4 hen HS3
            cases hd : H.chunkSize r3 with
            | error c =>
              have hq2 := chunkSize_err HS4.out.c (by omega) HS4.out.t h8 hd
              rw [hd] at he
              simp only at he
              have he' := he.symm
              clear he hd
              go_wp2_with (refine hq2.mono ?_; rintro e w5 ⟨rfl, hg5⟩)
              rw [he']
              exact ⟨rfl, Read.err (HS4.out.gr.trans hg5)⟩
            | ok p =>
              obtain ⟨n2, r4⟩ := p
              have hq2 := chunkSize_ok HS4.out.c (by omega) HS4.out.t h8 hd
              have hlen2 := H.chunkSize_len hd
              have hn2 := H.chunkSize_lt hd
              rw [hd] at he
              simp only at he
              clear hd
              go_wp2_with fail
              refine hq2.mono ?_
              rintro e w5 ⟨rfl, hg5, hc5⟩
              have HS5 := Lib.hid (HS4.out.step hg5 hc5)
              have hleft5 := hc5.left
              clear hg5 hc5 hq2 HS4
              go_wp2
              go_roundw
              case rel => exact ⟨n2, m, acc ++ pt, r4, rfl, hn2, by omega, by omega, he, HS5.out, by rw [List.length_append]; have := hpl.2; omega⟩
              case measure => rw [hleft5, Hleft.out]; omega
end Go.Proofs.YtomicdkmbgckkaaGreatDoor
