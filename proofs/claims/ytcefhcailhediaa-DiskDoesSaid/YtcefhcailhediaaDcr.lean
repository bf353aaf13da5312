/- THE WALK OVER the document's Crash. -/
import Derived.Test.YtcefhcailhediaaNam
import Derived.Test.YtcefhcailhediaaMth2
namespace Go.Proofs.Ytcefhcailhediaa
open Go.RowKit
set_option linter.unusedVariables false
set_option linter.unusedSimpArgs false

/-- a disk and an error are answered -/
def DQ (w : World) (r : D × Int) (e : Ending) (w' : World) : Prop :=
  ∃ ad2 n2 cap2, e = .returned (.tuple #[.agg (dcells (.slice ad2 n2 cap2) r.1.down r.1.fuse r.1.fault), .int .i64 r.2]) ∧ Inp w' w'.heap.size ad2 n2 cap2 r.1.files ∧ Below w.heap.size w w'
theorem news3 (w : World) (f : F) : ∀ j u, (fc f)[j]? = some u → (w.alloc (.cells (fcells f.name f.data f.syn) 46)).cell? ((⟨w.heap.size, 0, none⟩ : Addr).add j) = some u := by
  intro j u hj
  rw [Addr.add_lit]
  obtain ⟨q0, q1, q2⟩ := box3 (heap_new w (.cells (fcells f.name f.data f.syn) 46))
  match j, hj with
  | 0, hj => simp [fc] at hj; subst hj; exact q0
  | 1, hj => simp [fc] at hj; subst hj; exact q1
  | 2, hj => simp [fc] at hj; subst hj; exact q2
  | j + 3, hj => simp [fc] at hj
theorem fc1 (f : F) : ∀ u ∈ fc f, u.oneCell' = true := by
  intro u hu
  simp only [fc, List.mem_cons, List.not_mem_nil, or_false] at hu
  rcases hu with rfl | rfl | rfl <;> rfl

set_option maxHeartbeats 1000000 in
theorem dcrash_no (w : World) (ad : Option Addr) (n cap : Nat) (down : Bool) (fuse fault : Int) (fs : List F) (h : DIn w ad n cap fuse fault fs) (adk : Option Addr) (nk capk : Nat) (hR : ¬ Right fs) :
    Calls Try.prog 18 #[.agg (dcells (.slice ad n cap) down fuse fault), .slice adk nk capk] w fun e w' => DQ w (zero, 6) e w' := by
  have hb0 : Below w.heap.size w ((w.alloc (.cells (dcells (.slice ad n cap) down fuse fault) 24)).alloc (.cells #[.slice none 0 0, .bool false, .int .i64 0, .int .i64 0] 24)) := ((Below.refl _ w).alloc (Nat.le_refl _) _).alloc (by simp) _
  have hq := blk_new (w.alloc (.cells (dcells (.slice ad n cap) down fuse fault) 24)) (.cells #[.slice none 0 0, .bool false, .int .i64 0, .int .i64 0] 24)
  have Hc := Lib.hid (dcheck_no _ ad cap n down fuse fault fs (h.i.under hb0) h.fit hR)
  have Hb0 := Lib.hid hb0
  have Hq := Lib.hid hq
  clear h hb0 hq hR
  go_enter Try.func18, Try.ntmps18
  go_wp2_with fail
  refine (Hc.out).mono ?_
  rintro e w1 ⟨rfl, hb⟩
  have hD : Dk w1 (w.heap.size + 1) 24 (.slice none 0 0) false 0 0 := by
    have := (hb.block _ (Array.getElem?_eq_some_iff.1 Hq.out).1).trans Hq.out
    simpa [Dk] using this
  obtain ⟨⟨d0, d1, d2, d3⟩, f0, f1, f2, f3⟩ := hD.facts
  have HD := Lib.hid hD
  have Hb := Lib.hid (Hb0.out.trans (hb.mono Hb0.out.size))
  clear hb hD
  go_wp2
  refine bodyPost_ret (v := .tuple #[.agg (dcells (.slice none 0 0) false 0 0), .int .i64 6]) (by simp [results, Try.results18, go_sem, d0, d1, d2, d3]) rfl ?_
  refine ⟨none, 0, 0, rfl, Inp.nil _ _, ?_⟩
  exact (((Hb.out.setCell (p := ⟨w.heap.size + 1, 0, none⟩) (by simp) _).setCell (p := ⟨w.heap.size + 1, 1, none⟩) (by simp) _).setCell (p := ⟨w.heap.size + 1, 2, none⟩) (by simp) _).setCell (p := ⟨w.heap.size + 1, 3, none⟩) (by simp) _

/-- the boxes of a crash: the disk's, the answer's, the new disk's and its row -/
structure CB (w wr : World) (p : Nat) (ad : Option Addr) (n cap : Nat) (down : Bool) (fuse fault : Int) (v : Value) (out : List F) : Prop where
  b : Below w.heap.size w wr
  d : Dk wr w.heap.size 24 (.slice ad n cap) down fuse fault
  r : Dk wr (w.heap.size + 1) 24 (.slice none 0 0) false 0 0
  e : Dk wr p 24 v false (-1) (-1)
  o : FRow wr (p + 1) v out
theorem CB.under {w wr w' : World} {p : Nat} {ad : Option Addr} {n cap : Nat} {down : Bool} {fuse fault : Int} {v : Value} {out : List F} (h : CB w wr p ad n cap down fuse fault v out) (hb : Below wr.heap.size wr w') (ho : FRow w' (p + 1) v out) : CB w w' p ad n cap down fuse fault v out :=
  ⟨h.b.trans (hb.mono h.b.size), h.d.keep hb h.d.lt, h.r.keep hb h.r.lt, h.e.keep hb h.e.lt, ho⟩

set_option maxHeartbeats 8000000 in
theorem dcrash_yes (w : World) (ad : Option Addr) (n cap : Nat) (down : Bool) (fuse fault : Int) (fs : List F) (h : DIn w ad n cap fuse fault fs) (adk : Option Addr) (nk capk : Nat) (ks : List Int) (hk : Ints w w.heap.size adk ks) (hnk : nk = ks.length) (hnk63 : nk ≤ 9223372036854775807) (hR : Right fs) :
    Calls Try.prog 18 #[.agg (dcells (.slice ad n cap) down fuse fault), .slice adk nk capk] w fun e w' => DQ w (⟨crashL ks fs, false, -1, -1⟩, 0) e w' := by
  have hb0 : Below w.heap.size w ((w.alloc (.cells (dcells (.slice ad n cap) down fuse fault) 24)).alloc (.cells #[.slice none 0 0, .bool false, .int .i64 0, .int .i64 0] 24)) := ((Below.refl _ w).alloc (Nat.le_refl _) _).alloc (by simp) _
  have hx : Dk ((w.alloc (.cells (dcells (.slice ad n cap) down fuse fault) 24)).alloc (.cells #[.slice none 0 0, .bool false, .int .i64 0, .int .i64 0] 24)) w.heap.size 24 (.slice ad n cap) down fuse fault := blk_alloc (blk_new w _) _
  have hq := blk_new (w.alloc (.cells (dcells (.slice ad n cap) down fuse fault) 24)) (.cells #[.slice none 0 0, .bool false, .int .i64 0, .int .i64 0] 24)
  have Hc := Lib.hid (dcheck_ok _ ad cap n down fuse fault fs (h.i.under hb0) hR)
  have h64 : n ≤ 64 := by have := h.i.1; have := hR.1; omega
  obtain ⟨i0, hi0, hz0, hz1, hz2⟩ := info_parts Try.info46
  have Hb0 := Lib.hid hb0
  have Hq := Lib.hid hq
  have Hx := Lib.hid hx
  have H := Lib.hid h
  have HR := Lib.hid hR
  have Hk := Lib.hid hk
  have Hnk := Lib.hid hnk
  clear h hb0 hq hR hk hnk hx
  go_enter Try.func18, Try.ntmps18
  go_wp2_with fail
  refine (Hc.out).mono ?_
  rintro e w1 ⟨rfl, hb⟩
  have hE : Dk w1 (w.heap.size + 1) 24 (.slice none 0 0) false 0 0 := by
    have := (hb.block _ (Array.getElem?_eq_some_iff.1 Hq.out).1).trans Hq.out
    simpa [Dk] using this
  have hX := Hx.out.keep hb Hx.out.lt
  have hB := Hb0.out.trans (hb.mono Hb0.out.size)
  have hal := (Below.refl w1.heap.size w1).alloc (Nat.le_refl _) (.cells (dcells (.slice none 0 0) false (-1) (-1)) 24)
  have hCB : CB w (w1.alloc (.cells (dcells (.slice none 0 0) false (-1) (-1)) 24)) w1.heap.size ad n cap down fuse fault (.slice none 0 0) (crashL ks fs |>.take 0) :=
    ⟨hB.trans (hal.mono hB.size), hX.keep hal hX.lt, hE.keep hal hE.lt, blk_new w1 _, World.ownsRow_nil _ _ _ _⟩
  have HCB := Lib.hid hCB
  obtain ⟨⟨d0, d1, d2, d3⟩, _⟩ := hX.facts
  have hX1 := hX.lt
  have hE1 := hE.lt
  clear hb hE hX hB hal hCB Hx Hq Hb0
  go_wp2
  clear d0 d1 d2 d3
  go_loopw [22] (fun i wr => ∃ (k : Nat) (v : Value), i = .int .i64 (k : Int) ∧ k ≤ n ∧ CB w wr w1.heap.size ad n cap down fuse fault v ((crashL ks fs).take k)) (fun i _ => n - (intOf i).toNat)
  case atStart => exact ⟨0, _, rfl, by omega, HCB.out⟩
  case round =>
    obtain ⟨k, v, rfl, hk, hC⟩ := hrel
    have HC := Lib.hid hC
    have hlE := hC.e.lt
    have hlR := hC.r.lt
    obtain ⟨⟨e0, e1, e2, e3⟩, g0, g1, g2, g3⟩ := hC.e.facts
    by_cases hlt : k < n
    · have hfl : k < fs.length := by have := H.out.i.1; omega
      have hne : fs ≠ [] := by rintro rfl; simp at hfl
      obtain ⟨g, off, rfl, hg, hi⟩ := (H.out.i.2.2.2.keep hC.b) hne
      obtain ⟨f, hf⟩ : ∃ f, fs[k]? = some f := ⟨fs[k], by simp⟩
      obtain ⟨q0, q1, q2⟩ := hi k f hf
      have hok := HR.out.ok f (List.mem_of_getElem? hf)
      have hs2 := hok.2.1
      have hs3 := hok.2.2.1
      have hs4 := hok.2.2.2
      have hkn : (k : Int) < (n : Int) := by omega
      have hk0 : (0 : Int) ≤ (k : Int) := by omega
      have hcf := crashL_at ks fs k f hf
      obtain ⟨hok2, hsy⟩ := crash1_ok hok ks[k]?
      obtain ⟨bd1, bd2⟩ := keptS_bd hok ks[k]?
      have Htk := Lib.hid (show (crashL ks fs).take (k + 1) = (crashL ks fs).take k ++ [crash1 ks[k]? f] by rw [List.take_add_one, hcf]; rfl)
      have hlen : ((crashL ks fs).take k).length = k := by rw [List.length_take, crashL_len]; omega
      have Hlen := Lib.hid hlen
      obtain ⟨K, hK⟩ : ∃ K, keptS ks[k]? f = K := ⟨_, rfl⟩
      have hsz : ((f.data.extract 0 K.toNat).size : Int) = K := by
        have := hsy; unfold crash1 at this; simp only at this; rw [hK] at this; exact this.symm
      have Hc1 := Lib.hid (show crash1 ks[k]? f = ⟨f.name, f.data.extract 0 K.toNat, K⟩ by unfold crash1; rw [hK])
      rw [hK] at bd1 bd2
      have hK0 : 0 ≤ K := by omega
      have hKl : K.toNat ≤ f.data.size := by omega
      have hKm : (K.toNat : Int) = K := by omega
      have hal := ((Below.refl wr.heap.size wr).alloc (Nat.le_refl _) (.cells (fcells f.name f.data f.syn) 46)).alloc (by simp) (.cells (fcells f.name (f.data.extract 0 K.toNat) K) 46)
      have hnews := news3 (wr.alloc (.cells (fcells f.name f.data f.syn) 46)) ⟨f.name, f.data.extract 0 K.toNat, K⟩
      rw [show (wr.alloc (.cells (fcells f.name f.data f.syn) 46)).heap.size = wr.heap.size + 1 by simp] at hnews
      have Hnews := Lib.hid hnews
      have Hal := Lib.hid hal
      have Hown := Lib.hid (World.ownsRow.alloc (World.ownsRow.alloc hC.o (.cells (fcells f.name f.data f.syn) 46)) (.cells (fcells f.name (f.data.extract 0 K.toNat) K) 46))
      have Hat := Lib.hid (show ks[k]? = none ∨ ∃ x, ks[k]? = some x from by cases ks[k]?; exact .inl rfl; exact .inr ⟨_, rfl⟩)
      have HKs := Lib.hid (Hk.out.keep hC.b)
      have HK := Lib.hid hK
      have hwB := hC.b.size
      clear hi hf hne hcf hok2 hsy hlen hK hal hnews hC hg hok
      by_cases hkn2 : k < nk
      · obtain ⟨x, hx⟩ : ∃ x, ks[k]? = some x := ⟨ks[k]'(by have := Hnk.out; omega), by simp⟩
        have hkne : ks ≠ [] := by rintro rfl; simp at hx
        have hxb := HKs.out.1 x (List.mem_of_getElem? hx)
        obtain ⟨gk, offk, rfl, hgk, hki⟩ := HKs.out.2 hkne
        have hgk2 : gk < wr.heap.size := by omega
        have qk := hki k x hx
        have hkn2i : (k : Int) < (nk : Int) := by omega
        have hkd : decide ((k : Int) < (nk : Int)) = true := decide_eq_true hkn2i
        have hkd2 : decide (k < nk) = true := decide_eq_true hkn2
        have hKx := HK.out
        rw [hx] at hKx
        unfold keptS at hKx
        simp only at hKx
        clear hki hkne hx
        by_cases hx0 : 0 < x
        · rw [if_pos hx0] at hKx
          have hxd : decide (0 < x) = true := decide_eq_true hx0
          by_cases hx1 : (f.data.size : Int) - f.syn < x
          · have hxe : decide ((f.data.size : Int) - f.syn < x) = true := decide_eq_true hx1
            have hKe : f.syn + ((f.data.size : Int) - f.syn) = K := by omega
            clear hKx
            go_wp2_with (at_builtin; refine wpList_append_own_at _ rfl _ _ 22 rfl (w1.heap.size + 1) 46 i0 _ 3 40 Try.underlying22 hi0 hz0 hz1 hz2 rfl (by decide) v k _ rfl (by have := Hown.out; rw [Hlen.out] at this; exact this) ⟨wr.heap.size + 1, 0, none⟩ 1 1 (fc ⟨f.name, f.data.extract 0 K.toNat, K⟩) rfl rfl Hnews.out (fc1 _) (by simp [maxLen]; omega) (by omega) (by simp; omega) ?_)
            intro v' w' h1 h2 _ _
            have hbB := (Hal.out.mono (B' := w1.heap.size + 1) (by omega)).grown h2 (by simp; omega) (fun j hj => (World.ownsRow.lt Hown.out j hj).1)
            have hFR : FRow w' (w1.heap.size + 1) v' ((crashL ks fs).take (k + 1)) := by
              rw [Htk.out, Hc1.out]; unfold FRow; rw [List.length_append, Hlen.out, List.flatMap_append]; simpa using h1
            obtain ⟨N9, hN9⟩ : ∃ N, ((crashL ks fs).take (k + 1)).length = N := ⟨_, rfl⟩
            obtain ⟨ad9, cap9, hv9⟩ := hFR.form
            rw [hN9] at hv9
            subst hv9
            have hne2 : (Value.slice ad9 N9 cap9).ownBlock ≠ some w1.heap.size := fun e => by have := (hFR.lt _ e).1; omega
            have hs := (Below.refl w1.heap.size w').setCell (p := ⟨w1.heap.size, 0, none⟩) (Nat.le_refl _) (.slice ad9 N9 cap9)
            have hE' := HC.out.e.keep hbB (by omega)
            have HCB2 := Lib.hid (show CB w (w'.setCell ⟨w1.heap.size, 0, none⟩ (.slice ad9 N9 cap9)) w1.heap.size _ n cap down fuse fault (.slice ad9 N9 cap9) ((crashL ks fs).take (k + 1)) from
              ⟨(HC.out.b.trans (hbB.mono (by omega))).setCell (p := ⟨w1.heap.size, 0, none⟩) (by show w.heap.size ≤ w1.heap.size; omega) (.slice ad9 N9 cap9), (HC.out.d.keep hbB (by omega)).keep hs (by omega), (HC.out.r.keep hbB (by omega)).keep hs (by omega), hE'.set0 (.slice ad9 N9 cap9), hFR.set_far (.slice ad9 N9 cap9) hne2⟩)
            clear e0 e1 e2 e3 g0 g1 g2 g3
            obtain ⟨⟨e0, e1, e2, e3⟩, g0, g1, g2, g3⟩ := hE'.facts
            clear h1 h2 hbB hFR hne2 hs hE'
            go_wp2
            go_roundw
            case rel => exact ⟨k + 1, _, by go_num, by omega, HCB2.out⟩
            case measure => simp [intOf]; omega
          · have hxe : decide ((f.data.size : Int) - f.syn < x) = false := decide_eq_false hx1
            have hKe : f.syn + x = K := by omega
            clear hKx
            go_wp2_with (at_builtin; refine wpList_append_own_at _ rfl _ _ 22 rfl (w1.heap.size + 1) 46 i0 _ 3 40 Try.underlying22 hi0 hz0 hz1 hz2 rfl (by decide) v k _ rfl (by have := Hown.out; rw [Hlen.out] at this; exact this) ⟨wr.heap.size + 1, 0, none⟩ 1 1 (fc ⟨f.name, f.data.extract 0 K.toNat, K⟩) rfl rfl Hnews.out (fc1 _) (by simp [maxLen]; omega) (by omega) (by simp; omega) ?_)
            intro v' w' h1 h2 _ _
            have hbB := (Hal.out.mono (B' := w1.heap.size + 1) (by omega)).grown h2 (by simp; omega) (fun j hj => (World.ownsRow.lt Hown.out j hj).1)
            have hFR : FRow w' (w1.heap.size + 1) v' ((crashL ks fs).take (k + 1)) := by
              rw [Htk.out, Hc1.out]; unfold FRow; rw [List.length_append, Hlen.out, List.flatMap_append]; simpa using h1
            obtain ⟨N9, hN9⟩ : ∃ N, ((crashL ks fs).take (k + 1)).length = N := ⟨_, rfl⟩
            obtain ⟨ad9, cap9, hv9⟩ := hFR.form
            rw [hN9] at hv9
            subst hv9
            have hne2 : (Value.slice ad9 N9 cap9).ownBlock ≠ some w1.heap.size := fun e => by have := (hFR.lt _ e).1; omega
            have hs := (Below.refl w1.heap.size w').setCell (p := ⟨w1.heap.size, 0, none⟩) (Nat.le_refl _) (.slice ad9 N9 cap9)
            have hE' := HC.out.e.keep hbB (by omega)
            have HCB2 := Lib.hid (show CB w (w'.setCell ⟨w1.heap.size, 0, none⟩ (.slice ad9 N9 cap9)) w1.heap.size _ n cap down fuse fault (.slice ad9 N9 cap9) ((crashL ks fs).take (k + 1)) from
              ⟨(HC.out.b.trans (hbB.mono (by omega))).setCell (p := ⟨w1.heap.size, 0, none⟩) (by show w.heap.size ≤ w1.heap.size; omega) (.slice ad9 N9 cap9), (HC.out.d.keep hbB (by omega)).keep hs (by omega), (HC.out.r.keep hbB (by omega)).keep hs (by omega), hE'.set0 (.slice ad9 N9 cap9), hFR.set_far (.slice ad9 N9 cap9) hne2⟩)
            clear e0 e1 e2 e3 g0 g1 g2 g3
            obtain ⟨⟨e0, e1, e2, e3⟩, g0, g1, g2, g3⟩ := hE'.facts
            clear h1 h2 hbB hFR hne2 hs hE'
            go_wp2
            go_roundw
            case rel => exact ⟨k + 1, _, by go_num, by omega, HCB2.out⟩
            case measure => simp [intOf]; omega
        · rw [if_neg hx0] at hKx
          have hxd : decide (0 < x) = false := decide_eq_false hx0
          have hxe : ¬ (f.data.size : Int) - f.syn < 0 := by omega
          obtain rfl : K = f.syn := by omega
          clear hKx
          go_wp2_with (at_builtin; refine wpList_append_own_at _ rfl _ _ 22 rfl (w1.heap.size + 1) 46 i0 _ 3 40 Try.underlying22 hi0 hz0 hz1 hz2 rfl (by decide) v k _ rfl (by have := Hown.out; rw [Hlen.out] at this; exact this) ⟨wr.heap.size + 1, 0, none⟩ 1 1 (fc ⟨f.name, f.data.extract 0 f.syn.toNat, f.syn⟩) rfl rfl Hnews.out (fc1 _) (by simp [maxLen]; omega) (by omega) (by simp; omega) ?_)
          intro v' w' h1 h2 _ _
          have hbB := (Hal.out.mono (B' := w1.heap.size + 1) (by omega)).grown h2 (by simp; omega) (fun j hj => (World.ownsRow.lt Hown.out j hj).1)
          have hFR : FRow w' (w1.heap.size + 1) v' ((crashL ks fs).take (k + 1)) := by
            rw [Htk.out, Hc1.out]; unfold FRow; rw [List.length_append, Hlen.out, List.flatMap_append]; simpa using h1
          obtain ⟨N9, hN9⟩ : ∃ N, ((crashL ks fs).take (k + 1)).length = N := ⟨_, rfl⟩
          obtain ⟨ad9, cap9, hv9⟩ := hFR.form
          rw [hN9] at hv9
          subst hv9
          have hne2 : (Value.slice ad9 N9 cap9).ownBlock ≠ some w1.heap.size := fun e => by have := (hFR.lt _ e).1; omega
          have hs := (Below.refl w1.heap.size w').setCell (p := ⟨w1.heap.size, 0, none⟩) (Nat.le_refl _) (.slice ad9 N9 cap9)
          have hE' := HC.out.e.keep hbB (by omega)
          have HCB2 := Lib.hid (show CB w (w'.setCell ⟨w1.heap.size, 0, none⟩ (.slice ad9 N9 cap9)) w1.heap.size _ n cap down fuse fault (.slice ad9 N9 cap9) ((crashL ks fs).take (k + 1)) from
            ⟨(HC.out.b.trans (hbB.mono (by omega))).setCell (p := ⟨w1.heap.size, 0, none⟩) (by show w.heap.size ≤ w1.heap.size; omega) (.slice ad9 N9 cap9), (HC.out.d.keep hbB (by omega)).keep hs (by omega), (HC.out.r.keep hbB (by omega)).keep hs (by omega), hE'.set0 (.slice ad9 N9 cap9), hFR.set_far (.slice ad9 N9 cap9) hne2⟩)
          clear e0 e1 e2 e3 g0 g1 g2 g3
          obtain ⟨⟨e0, e1, e2, e3⟩, g0, g1, g2, g3⟩ := hE'.facts
          clear h1 h2 hbB hFR hne2 hs hE'
          go_wp2
          go_roundw
          case rel => exact ⟨k + 1, _, by go_num, by omega, HCB2.out⟩
          case measure => simp [intOf]; omega
      · have hkn2i : ¬ (k : Int) < (nk : Int) := by omega
        have hkd : decide ((k : Int) < (nk : Int)) = false := decide_eq_false hkn2i
        have hkd2 : decide (k < nk) = false := decide_eq_false hkn2
        have hKx := HK.out
        rw [show ks[k]? = none from by simp; have := Hnk.out; omega] at hKx
        unfold keptS at hKx
        simp only at hKx
        have hxe : ¬ (f.data.size : Int) - f.syn < 0 := by omega
        obtain rfl : K = f.syn := by omega
        clear hKx
        go_wp2_with (at_builtin; refine wpList_append_own_at _ rfl _ _ 22 rfl (w1.heap.size + 1) 46 i0 _ 3 40 Try.underlying22 hi0 hz0 hz1 hz2 rfl (by decide) v k _ rfl (by have := Hown.out; rw [Hlen.out] at this; exact this) ⟨wr.heap.size + 1, 0, none⟩ 1 1 (fc ⟨f.name, f.data.extract 0 f.syn.toNat, f.syn⟩) rfl rfl Hnews.out (fc1 _) (by simp [maxLen]; omega) (by omega) (by simp; omega) ?_)
        intro v' w' h1 h2 _ _
        have hbB := (Hal.out.mono (B' := w1.heap.size + 1) (by omega)).grown h2 (by simp; omega) (fun j hj => (World.ownsRow.lt Hown.out j hj).1)
        have hFR : FRow w' (w1.heap.size + 1) v' ((crashL ks fs).take (k + 1)) := by
          rw [Htk.out, Hc1.out]; unfold FRow; rw [List.length_append, Hlen.out, List.flatMap_append]; simpa using h1
        obtain ⟨N9, hN9⟩ : ∃ N, ((crashL ks fs).take (k + 1)).length = N := ⟨_, rfl⟩
        obtain ⟨ad9, cap9, hv9⟩ := hFR.form
        rw [hN9] at hv9
        subst hv9
        have hne2 : (Value.slice ad9 N9 cap9).ownBlock ≠ some w1.heap.size := fun e => by have := (hFR.lt _ e).1; omega
        have hs := (Below.refl w1.heap.size w').setCell (p := ⟨w1.heap.size, 0, none⟩) (Nat.le_refl _) (.slice ad9 N9 cap9)
        have hE' := HC.out.e.keep hbB (by omega)
        have HCB2 := Lib.hid (show CB w (w'.setCell ⟨w1.heap.size, 0, none⟩ (.slice ad9 N9 cap9)) w1.heap.size _ n cap down fuse fault (.slice ad9 N9 cap9) ((crashL ks fs).take (k + 1)) from
          ⟨(HC.out.b.trans (hbB.mono (by omega))).setCell (p := ⟨w1.heap.size, 0, none⟩) (by show w.heap.size ≤ w1.heap.size; omega) (.slice ad9 N9 cap9), (HC.out.d.keep hbB (by omega)).keep hs (by omega), (HC.out.r.keep hbB (by omega)).keep hs (by omega), hE'.set0 (.slice ad9 N9 cap9), hFR.set_far (.slice ad9 N9 cap9) hne2⟩)
        clear e0 e1 e2 e3 g0 g1 g2 g3
        obtain ⟨⟨e0, e1, e2, e3⟩, g0, g1, g2, g3⟩ := hE'.facts
        clear h1 h2 hbB hFR hne2 hs hE'
        go_wp2
        go_roundw
        case rel => exact ⟨k + 1, _, by go_num, by omega, HCB2.out⟩
        case measure => simp [intOf]; omega
    · have hC' := HC.out
      rw [List.take_of_length_le (by rw [crashL_len]; have := H.out.i.1; omega)] at hC'
      obtain ⟨ad2, cap2, rfl, hc1, hc2, hf2⟩ := hC'.o.fls
      have hI : Inp wr wr.heap.size ad2 (crashL ks fs).length cap2 (crashL ks fs) := ⟨rfl, hc1, hc2, hf2⟩
      have hneY : (Value.slice ad2 (crashL ks fs).length cap2).ownBlock ≠ some (w.heap.size + 1) := fun e => by have := (hC'.o.lt _ e).1; omega
      have hV := Var.put (down := false) (fuse := -1) (fault := -1) hC'.r hI hneY
      obtain ⟨⟨r0, r1, r2, r3⟩, _⟩ := hV.d.facts
      have HV := Lib.hid hV
      have Hb3 := Lib.hid (below_put hC'.b (q := w.heap.size + 1) (by omega) (.slice ad2 (crashL ks fs).length cap2) (.bool false) (.int .i64 (-1)) (.int .i64 (-1)))
      obtain ⟨⟨z0, z1, z2, z3⟩, y0, y1, y2, y3⟩ := hC'.r.facts
      clear hV hI hC' hf2 hc1 hc2 hC
      go_wp2
      exact bodyPost_ret (v := .tuple #[.agg (dcells (.slice ad2 (crashL ks fs).length cap2) false (-1) (-1)), .int .i64 0]) (by simp [results, Try.results18, go_sem, r0, r1, r2, r3]) rfl ⟨_, _, _, rfl, HV.out.i, Hb3.out⟩
theorem dcrash_any (w : World) (ad : Option Addr) (n cap : Nat) (down : Bool) (fuse fault : Int) (fs : List F) (h : DIn w ad n cap fuse fault fs) (adk : Option Addr) (nk capk : Nat) (ks : List Int) (hk : Ints w w.heap.size adk ks) (hnk : nk = ks.length) (hnk63 : nk ≤ 9223372036854775807) :
    Calls Try.prog 18 #[.agg (dcells (.slice ad n cap) down fuse fault), .slice adk nk capk] w fun e w' => DQ w (crv ⟨fs, down, fuse, fault⟩ ks) e w' := by
  by_cases hR : Right fs
  · rw [crv_right hR]; exact dcrash_yes w ad n cap down fuse fault fs h adk nk capk ks hk hnk hnk63 hR
  · have : crv ⟨fs, down, fuse, fault⟩ ks = (zero, 6) := by unfold crv; rw [if_neg hR]
    rw [this]; exact dcrash_no w ad n cap down fuse fault fs h adk nk capk hR
end Go.Proofs.Ytcefhcailhediaa
