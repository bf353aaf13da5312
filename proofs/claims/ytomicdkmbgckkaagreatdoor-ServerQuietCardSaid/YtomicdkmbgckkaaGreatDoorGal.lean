/- HTTP: THE WALKS OVER body, mustSay, statusLine. -/
import Derived.Test.YtomicdkmbgckkaaGreatDoorGak
import Derived.Lib.ParseIntBCases
namespace Go.Proofs.YtomicdkmbgckkaaGreatDoor
open Go.RowKit
set_option maxRecDepth 100000
set_option linter.unusedVariables false
set_option linter.unusedSimpArgs false

theorem trow_at {w : World} {B : Nat} {v : Value} {c : H.T} {t : List H.T} (h : TRow w B v (c :: t)) : ∃ gb cap, v = .slice (some ⟨gb, 0, none⟩) (t.length + 1) cap ∧ w.cell? ⟨gb, 0, none⟩ = some (S c) ∧ gb < w.heap.size := by
  have hc : ∀ g, v.ownBlock = some g → w.cell? ((⟨g, 0, none⟩ : Addr).add 0) = some (S c) := fun g hg => World.ownsRow.cells h hg 0 (S c) rfl
  rcases h.2 with ⟨hv, hn⟩ | ⟨gb, cap, cur, hv, hbg, hg, _⟩
  · simp at hn
  · refine ⟨gb, cap, hv, ?_, blk_lt hg⟩
    have := hc gb (by rw [hv]; rfl)
    rw [Addr.add_lit, Nat.zero_add] at this
    exact this
def Short (f : H.Fr) : Prop := (∀ s ∈ f.lens, s.length ≤ 4098) ∧ ∀ s ∈ f.cods, s.length ≤ 4098
theorem part_ok {w : World} {g : Nat} {l : H.T} {most : Int} (hc : Crs w g l most) (hl : l.length ≤ 281474976710656) (hm : H.okMost most) (n : Nat) (hn : n < 18446744073709551616) {t : Value} :
    Calls Tryz.prog 39 #[.pointer (some ⟨g, 0, none⟩), .int .u64 (n : Int), .int .i64 0] w (Read w g most (H.part most n 0 l) fun t _ v => v = S t) := part_any w g l most hc hl hm n 0 hn (by simpa using hm.1)
theorem decO_lt {s : H.T} {n d : Nat} (h : H.whole10 s d = .ok n) : n < 18446744073709551616 := by
  unfold H.whole10 H.wholeO at h
  split at h
  · unfold H.decO at h
    cases hp : Lib.parseUintB 64 s with
    | ok u =>
      rw [hp] at h
      injection h with h
      subst h
      unfold Lib.parseUintB at hp
      split at hp
      · cases hp
      · have := Lib.parseUintM_le _ s 0 u (by omega) hp
        omega
    | _ => rw [hp] at h; cases h
  · cases h
theorem sl_len : True := trivial
set_option maxHeartbeats 2000000 in
theorem body_any (w : World) (g : Nat) (l : H.T) (most : Int) (hc : Crs w g l most) (hl : l.length ≤ 149533581377000) (hT : Tabs w) (h8 : 8 ≤ g) (hm : H.okMost most) (f : H.Fr) (lv cv : Value) (B : Nat) (hL : TRow w B lv f.lens) (hK : TRow w B cv f.cods) (hf : Short f) :
    Calls Tryz.prog 23 #[.pointer (some ⟨g, 0, none⟩), .agg #[lv, cv]] w (Read w g most (H.body most f l) fun t _ v => v = S t) := by
  obtain ⟨hs, ls, cs⟩ := f
  simp only at hL hK
  obtain ⟨adl, capl, hlf⟩ := row_form hL
  obtain ⟨adc, capc, hcf⟩ := row_form hK
  obtain ⟨nl, hnl⟩ : ∃ nl, ls.length = nl := ⟨_, rfl⟩
  obtain ⟨nc, hnc⟩ : ∃ nc, cs.length = nc := ⟨_, rfl⟩
  rw [hnl] at hlf
  rw [hnc] at hcf
  obtain ⟨X, hX⟩ : ∃ X, X = w.alloc (.cells #[lv, cv] 65) := ⟨_, rfl⟩
  have hbX : Below w.heap.size w X := by rw [hX]; exact (Below.refl _ w).alloc (Nat.le_refl _) _
  have hx : X.heap[w.heap.size]? = some (.cells #[lv, cv] 65 (0, 0)) := by rw [hX]; exact blk_new w _
  have HG := Lib.hid (Go1.mk (below_grown hbX (some g)) (hc.under hbX))
  have HT := Lib.hid (hT.under hbX)
  have HL := Lib.hid (show TRow X B lv ls from row_below hL hbX)
  have HK := Lib.hid (show TRow X B cv cs from row_below hK hbX)
  have Hf := Lib.hid hf
  have Hm := Lib.hid hm
  clear hc hT hbX hL hK hf
  by_cases n1 : 0 < nc
  · obtain ⟨a, t, rfl⟩ : ∃ a t, cs = a :: t := by
      cases cs with
      | nil => simp at hnc; omega
      | cons a t => exact ⟨a, t, rfl⟩
    obtain ⟨gb, cap2, e2, hcell, hgb⟩ := trow_at HK.out
    have ea : adc = some ⟨gb, 0, none⟩ := by rw [hcf] at e2; injection e2
    have hal := alike_any X a H.chunkedN (by have := Hf.out.2 a (by simp); omega)
    have n1' : (0 : Int) < (nc : Int) := by omega
    subst hlf hcf ea
    obtain ⟨c0, c1⟩ := box2 hx
    have hlx := blk_lt hx
    clear hx e2
    by_cases n2 : nc = 1
    · subst n2
      by_cases h2 : H.alike a H.chunkedN = true
      · rw [h2] at hal
        by_cases n3 : nl = 0
        · subst n3
          have hv : H.body most ⟨hs, ls, a :: t⟩ l = H.chunks most l := by unfold H.body; simp only [hnc, hnl, List.headD_cons]; simp [h2]
          rw [hv]
          clear hv
          go_enter Tryz.func23, Tryz.ntmps23
          go_upto_region 1 with (fail)
          rw [← hX]
          clear hX
          go_wp2_with (first | (go_at_call 37; refine hal.mono ?_; rintro e w4 ⟨rfl, n4, rfl⟩) | (go_at_call 29; with_reducible refine (unless_yes _ _).mono ?_; rintro e w2 ⟨rfl, rfl⟩))
          have hG2 := HG.out.below (below_drewN' X n4)
          have HT2 := HT.out.under (below_drewN' X n4)
          refine (chunks_any (X.drewN n4) g l most hG2.c hl HT2 h8 Hm.out).mono ?_
          rintro e w5 hr
          have HG2 := Lib.hid hG2
          clear hG2 HT2
          cases hk : H.chunks most l with
          | error c =>
            rw [hk] at hr
            obtain ⟨hg5, rfl⟩ := hr
            go_wp2
            rw [hk]
            exact ⟨rfl, Read.err (HG2.out.gr.trans hg5)⟩
          | ok p =>
            obtain ⟨tx, r⟩ := p
            rw [hk] at hr
            obtain ⟨hg5, x5, rfl, rfl, hc5⟩ := hr
            have Hg5 := Lib.hid hg5
            have Hc5 := Lib.hid hc5
            clear hg5 hc5
            go_wp2
            go_ret
            rw [hk]
            exact Read.ok (HG2.out.gr.trans Hg5.out) rfl Hc5.out
        · have n3' : ¬ (nl : Int) = 0 := by omega
          have hv : H.body most ⟨hs, ls, a :: t⟩ l = .error 13 := by unfold H.body; simp only [hnc, hnl, List.headD_cons]; simp [h2, n3]
          rw [hv]
          clear hv
          have Hq := Lib.hid (show ((nl : Int) == 0) = false from by simpa using n3')
          go_enter Tryz.func23, Tryz.ntmps23
          go_upto_region 1 with (fail)
          rw [← hX]
          clear hX
          go_wp2_with (first | (go_at_call 37; refine hal.mono ?_; rintro e w4 ⟨rfl, n4, rfl⟩) | (go_at_call 29; first | (with_reducible refine (unless_no _ _).mono ?_; rintro e w2 ⟨rfl, rfl⟩) | (rw [Hq.out]; with_reducible refine (unless_no _ _).mono ?_; rintro e w2 ⟨rfl, rfl⟩)))
          exact ⟨rfl, Read.err (HG.out.below (below_drewN' X n4)).gr⟩
      · have hv : H.body most ⟨hs, ls, a :: t⟩ l = .error 13 := by unfold H.body; simp only [hnc, hnl, List.headD_cons]; simp [h2]
        rw [hv]
        clear hv
        have h2' : H.alike a H.chunkedN = false := by simpa using h2
        rw [h2'] at hal
        clear h2 h2'
        go_enter Tryz.func23, Tryz.ntmps23
        go_upto_region 1 with (fail)
        rw [← hX]
        clear hX
        go_wp2_with (first | (go_at_call 37; refine hal.mono ?_; rintro e w4 ⟨rfl, n4, rfl⟩) | (go_at_call 29; with_reducible refine (unless_no _ _).mono ?_; rintro e w2 ⟨rfl, rfl⟩))
        exact ⟨rfl, Read.err (HG.out.below (below_drewN' X n4)).gr⟩
    · have n2' : ¬ (nc : Int) = 1 := by omega
      have hv : H.body most ⟨hs, ls, a :: t⟩ l = .error 13 := by unfold H.body; simp only [hnc, hnl, List.headD_cons]; simp [n1, n2]
      rw [hv]
      clear hv
      have Hq := Lib.hid (show ((nc : Int) == 1) = false from by simpa using n2')
      go_enter Tryz.func23, Tryz.ntmps23
      go_upto_region 1 with (fail)
      rw [← hX]
      clear hX
      go_wp2_with (go_at_call 29; first | (with_reducible refine (unless_no _ _).mono ?_; rintro e w2 ⟨rfl, rfl⟩) | (rw [Hq.out]; with_reducible refine (unless_no _ _).mono ?_; rintro e w2 ⟨rfl, rfl⟩))
      exact ⟨rfl, Read.err HG.out.gr⟩
  · have n0 : nc = 0 := by omega
    subst n0
    by_cases n4 : 0 < nl
    · obtain ⟨a, t, rfl⟩ : ∃ a t, ls = a :: t := by
        cases ls with
        | nil => simp at hnl; omega
        | cons a t => exact ⟨a, t, rfl⟩
      obtain ⟨gb, cap2, e2, hcell, hgb⟩ := trow_at HL.out
      have ea : adl = some ⟨gb, 0, none⟩ := by rw [hlf] at e2; injection e2
      have hw := whole10_any X a 9 (by have := Hf.out.1 a (by simp); omega) HT.out
      have n4' : (0 : Int) < (nl : Int) := by omega
      subst hlf hcf ea
      obtain ⟨c0, c1⟩ := box2 hx
      have hlx := blk_lt hx
      clear hx e2
      by_cases n5 : nl = 1
      · subst n5
        have hv : H.body most ⟨hs, a :: t, cs⟩ l = match H.whole10 a 9 with | .error e => .error e | .ok n => H.part most n 0 l := by unfold H.body; simp only [hnc, hnl, List.headD_cons]; simp; cases H.whole10 a 9 <;> rfl
        rw [hv]
        clear hv
        cases hr : H.whole10 a 9 with
        | error c =>
          rw [hr] at hw
          simp only at hw ⊢
          go_enter Tryz.func23, Tryz.ntmps23
          go_upto_region 1 with (fail)
          rw [← hX]
          clear hX
          go_wp2_with (first | (go_at_call 29; with_reducible refine (unless_yes _ _).mono ?_; rintro e w2 ⟨rfl, rfl⟩) | (go_at_call 40; refine hw.mono ?_; rintro e w3 ⟨hb3, rfl⟩))
          exact ⟨rfl, Read.err (HG.out.below hb3).gr⟩
        | ok n =>
          rw [hr] at hw
          simp only at hw ⊢
          have hn := decO_lt hr
          go_enter Tryz.func23, Tryz.ntmps23
          go_upto_region 1 with (fail)
          rw [← hX]
          clear hX
          go_wp2_with (first | (go_at_call 29; with_reducible refine (unless_yes _ _).mono ?_; rintro e w2 ⟨rfl, rfl⟩) | (go_at_call 40; refine hw.mono ?_; rintro e w3 ⟨hb3, rfl⟩))
          have HG2 := Lib.hid (HG.out.below hb3)
          clear hb3
          refine (part_any w3 g l most HG2.out.c (by omega) Hm.out n 0 hn (by simpa using Hm.out.1)).mono ?_
          rintro e w5 hr
          cases hk : H.part most n 0 l with
          | error c =>
            rw [hk] at hr
            obtain ⟨hg5, rfl⟩ := hr
            go_wp2
            rw [hk]
            exact ⟨rfl, Read.err (HG2.out.gr.trans hg5)⟩
          | ok p =>
            obtain ⟨tx, r⟩ := p
            rw [hk] at hr
            obtain ⟨hg5, x5, rfl, rfl, hc5⟩ := hr
            have Hg5 := Lib.hid hg5
            have Hc5 := Lib.hid hc5
            clear hg5 hc5
            go_wp2
            go_ret
            rw [hk]
            exact Read.ok (HG2.out.gr.trans Hg5.out) rfl Hc5.out
      · have n5' : ¬ (nl : Int) = 1 := by omega
        have hv : H.body most ⟨hs, a :: t, cs⟩ l = .error 13 := by unfold H.body; simp only [hnc, hnl, List.headD_cons]; simp [n4, n5]
        rw [hv]
        clear hv
        have Hq := Lib.hid (show ((nl : Int) == 1) = false from by simpa using n5')
        go_enter Tryz.func23, Tryz.ntmps23
        go_upto_region 1 with (fail)
        rw [← hX]
        clear hX
        go_wp2_with (go_at_call 29; first | (with_reducible refine (unless_no _ _).mono ?_; rintro e w2 ⟨rfl, rfl⟩) | (rw [Hq.out]; with_reducible refine (unless_no _ _).mono ?_; rintro e w2 ⟨rfl, rfl⟩))
        exact ⟨rfl, Read.err HG.out.gr⟩
    · have n0 : nl = 0 := by omega
      subst n0
      have hv : H.body most ⟨hs, ls, cs⟩ l = .ok ([], l) := by unfold H.body; simp only [hnc, hnl]; simp
      rw [hv]
      clear hv
      subst hlf hcf
      obtain ⟨c0, c1⟩ := box2 hx
      have hlx := blk_lt hx
      clear hx
      go_enter Tryz.func23, Tryz.ntmps23
      go_upto_region 1 with (fail)
      rw [← hX]
      clear hX
      go_wp2
      go_ret
      exact Read.ok HG.out.gr rfl HG.out.c
end Go.Proofs.YtomicdkmbgckkaaGreatDoor
