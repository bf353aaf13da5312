/- SEGMENT: THE WALK OVER changed's drop. -/
import Derived.Test.YtlgbehagflnfgaaGreatDoorGam
namespace Go.Proofs.YtlgbehagflnfgaaGreatDoor
open Go.RowKit
set_option maxRecDepth 100000
set_option linter.unusedVariables false
set_option linter.unusedSimpArgs false
theorem Tryz.info150s : (Tryz.prog.info? 150).map (fun i => (i.zero, i.size, i.bytes)) = some (some (.agg #[.int .u8 0, .string ⟨#[]⟩, .string ⟨#[]⟩, .int .i64 0]), 4, 48) := by kernel_rfl
theorem Tryz.under68s : Tryz.prog.underlying 98 = some (.slice 150) := by kernel_rfl
/-- the step that takes a file away -/
abbrev rmS (s : SF) : S := ⟨5, s.f.name, ⟨#[]⟩, 0⟩
abbrev stp (s : S) : List Value := [.int .u8 (s.kind : Int), .string s.name, .string s.data, .int .i64 s.size]
def stc (l : List S) : List Value := l.flatMap stp
theorem stc_snoc (l : List S) (s : S) : stc (l ++ [s]) = stc l ++ stp s := by simp [stc]
theorem stc_len (l : List S) : (stc l).length = l.length * 4 := by
  induction l with
  | nil => rfl
  | cons s l ih => rw [stc, List.flatMap_cons, List.length_append]; rw [stc] at ih; rw [ih]; simp; omega
theorem stc_at : ∀ (l : List S) (i : Nat) (s : S), l[i]? = some s → ∀ j, j < 4 → (stc l)[i * 4 + j]? = (stp s)[j]?
  | [], i, s, h => by simp at h
  | x :: l, 0, s, h => by
    simp at h
    subst h
    intro j hj
    rw [stc, List.flatMap_cons, Nat.zero_mul, Nat.zero_add, List.getElem?_append_left (by simpa using hj)]
  | x :: l, i + 1, s, h => by
    intro j hj
    have := stc_at l i s (by simpa using h) j hj
    rw [stc, List.flatMap_cons, List.getElem?_append_right (by simp; omega)]
    rw [stc] at this
    rw [← this]
    congr 1
    simp
    omega
def TRow (w : World) (base : Nat) (v : Value) (l : List S) : Prop := w.ownsRow base 150 4 v l.length (stc l)
theorem TRow.under {w w' : World} {base : Nat} {v : Value} {l : List S} (h : TRow w base v l) (hb : Below w.heap.size w w') : TRow w' base v l :=
  World.ownsRow.kept (row := none) h ⟨hb.os, hb.tape, hb.output, hb.size, fun k hk _ => hb.block k hk⟩ (by cases v.ownBlock <;> simp)
/-- the row's form, and its steps -/
theorem TRow.form {w : World} {base : Nat} {v : Value} {l : List S} (h : TRow w base v l) (no : Nat) (hno : no < base) : ∃ ad cap, v = .slice ad l.length cap ∧ SAt w w.heap.size ad l no := by
  rcases h.2 with ⟨hv, hn⟩ | ⟨g, cap, cur, hv, hb, hg, hnc, _⟩
  · exact ⟨none, 0, by rw [hv, hn], fun hne => absurd (List.eq_nil_of_length_eq_zero hn) hne⟩
  · refine ⟨_, cap, hv, fun hne => ⟨g, 0, rfl, (Array.getElem?_eq_some_iff.1 hg).1, by omega, fun i s hi => ?_⟩⟩
    have hc : ∀ j u, (stc l)[j]? = some u → w.cell? ⟨g, j, none⟩ = some u := fun j u hu => by
      have := World.ownsRow.cells h (g := g) (by rw [hv]; rfl) j u hu
      simpa [Addr.add_lit] using this
    have ha := stc_at l i s hi
    refine ⟨?_, ?_, ?_, ?_⟩
    · rw [Nat.zero_add]; exact hc _ _ (by have := ha 0 (by omega); simpa using this)
    · rw [Nat.zero_add]; exact hc _ _ (by rw [ha 1 (by omega)]; rfl)
    · rw [Nat.zero_add]; exact hc _ _ (by rw [ha 2 (by omega)]; rfl)
    · rw [Nat.zero_add]; exact hc _ _ (by rw [ha 3 (by omega)]; rfl)
theorem app_step (X : World) (base : Nat) (v : Value) (l : List S) (s : S) (hb : base ≤ X.heap.size) (hrow : TRow X base v l) (hn : l.length ≤ 1000000) :
    ∃ v' w', (Builtin.append_ #[98, 98] 98 #[v, .slice (some ⟨X.heap.size, 0, none⟩) 1 1]).run Tryz.prog (X.alloc (.cells (stp s).toArray 150)) = .ok v' w' ∧ TRow w' base v' (l ++ [s]) ∧ (X.alloc (.cells (stp s).toArray 150)).grownBy w' v.ownBlock := by
  obtain ⟨i0, hi, hz0, hz1, hz2⟩ := info_parts Tryz.info150s
  have hblk := blk_new X (.cells (stp s).toArray 150)
  have hcell : ∀ j u, (stp s)[j]? = some u → (X.alloc (.cells (stp s).toArray 150)).cell? ((⟨X.heap.size, 0, none⟩ : Addr).add j) = some u := fun j u hj => by
    have h0 := cell_of_row _ X.heap.size j _ 150 (0, 0) hblk
    rw [Addr.add_lit, Nat.zero_add, h0]
    simpa using hj
  obtain ⟨v', w', hr, ho, hg, _, hob⟩ := run_append_own_at (P := Tryz.prog) (X.alloc (.cells (stp s).toArray 150)) base 98 98 150 i0 _ 4 48 Tryz.under68s hi hz0 hz1 hz2 rfl (by decide) v l.length _ (World.ownsRow.alloc hrow _) ⟨X.heap.size, 0, none⟩ 1 1 (stp s) (by simp) hcell (fun u hu => by
    simp only [List.mem_cons, List.not_mem_nil, or_false] at hu
    rcases hu with rfl | rfl | rfl | rfl <;> rfl) (by simp [maxLen]; omega) (by omega) (by simp; omega)
  refine ⟨v', w', hr, ?_, hg⟩
  unfold TRow
  rw [stc_snoc, List.length_append]
  exact ho
/-- so many files lie ahead of seq -/
def cutN : List SF → Int → Nat
  | _ :: s2 :: r, q => if (s2.n : Int) ≤ q then cutN (s2 :: r) q + 1 else 0
  | _, _ => 0
noncomputable def dropS (l : L) (q : Int) : L × Int := doS l (((filesM l.d.files).take (cutN (filesM l.d.files) q)).map rmS)
noncomputable def dropM (l : L) (q : Int) : L × Int := if (dropS l q).2 = 0 then (match (filesM l.d.files)[cutN (filesM l.d.files) q]? with
    | some s => { (dropS l q).1 with fr := (s.n : Int) }
    | none => (dropS l q).1, 0) else dropS l q
theorem LAt.frm {w : World} {g : Nat} {ad : Option Addr} {n cap : Nat} {l : L} (h : LAt w g ad n cap l) (m : Int) : LAt (w.setCell ⟨g, 5, none⟩ (.int .u64 m)) g ad n cap { l with fr := m } :=
  ⟨heap_setCell_same w g 5 _ 104 _ h.h, ⟨(Inp.set h.d.i h.o).mono (by simp [World.setCell]), h.d.fit, h.d.u0, h.d.u1, h.d.f0, h.d.f1⟩, h.o, fun b e => (h.f b e).set _ _ _⟩
theorem cutN_step {l : List SF} {k : Nat} {s : SF} {q : Int} (h : l[k + 1]? = some s) : cutN (l.drop k) q = if (s.n : Int) ≤ q then cutN (l.drop (k + 1)) q + 1 else 0 := by
  have hk1 : k + 1 < l.length := (List.getElem?_eq_some_iff.1 h).1
  have he : l[k + 1] = s := (List.getElem?_eq_some_iff.1 h).2
  rw [List.drop_eq_getElem_cons (show k < l.length by omega), List.drop_eq_getElem_cons hk1, he]
  rfl
theorem cutN_end {l : List SF} {k : Nat} {q : Int} (h : l.length ≤ k + 1) : cutN (l.drop k) q = 0 := by
  have hl : (l.drop k).length ≤ 1 := by rw [List.length_drop]; omega
  match l.drop k, hl with
  | [], _ => rfl
  | [x], _ => rfl
  | _ :: _ :: _, hl => simp at hl

def lenOfV : Value → Nat
  | .slice _ n _ => n
  | _ => 0

set_option maxHeartbeats 4000000 in
theorem ldrop_any (w : World) (g : Nat) (ad : Option Addr) (n cap : Nat) (l : L) (q : Int) (h : LAt w g ad n cap l) (hR : Right l.d.files) (hT : Tabs w) (hg3 : 3 < g) (hq0 : 0 ≤ q) (hq1 : q ≤ 18446744073709551615) :
    Calls Tryz.prog 124 #[.pointer (some ⟨g, 0, none⟩), .int .u64 q] w fun e w' => ∃ ad2 n2 cap2, e = .returned (.int .i64 (dropM l q).2) ∧ LAt w' g ad2 n2 cap2 (dropM l q).1 ∧ w.grownBy w' (some g) ∧
      ∀ b, (Value.slice ad2 n2 cap2).ownBlock = some b → (Value.slice ad n cap).ownBlock = some b ∨ w.heap.size ≤ b := by
  have HL := Lib.hid h
  have HR := Lib.hid hR
  have HT := Lib.hid hT
  clear hR hT
  obtain ⟨⟨fs, down, fuse, fault⟩, size, fr, nx, broken⟩ := l
  have h64 : n ≤ 1000 := by have := h.d.i.1; have := HR.out.1; simp only at *; omega
  have hfn : (filesM fs).length ≤ 1000 := by have h1 := filesM_len fs; have h2 := h.d.i.1; simp only at h2; omega
  obtain ⟨d0, d1, d2, d3, d4, d5, d6, d7⟩ := box8 h.h
  have hlg := (Array.getElem?_eq_some_iff.1 h.h).1
  clear h
  go_enter Tryz.func124, Tryz.ntmps124
  go_wp2_with fail
  refine (files_any w ad n cap down fuse fault fs HL.out.d.i h64 (right_names HR.out) HT.out).mono ?_
  rintro e w1 ⟨v, rfl, hrow, hb1⟩
  have HL1 := Lib.hid (HL.out.under hb1)
  have Hb1 := Lib.hid hb1
  have hlg1 := (Array.getElem?_eq_some_iff.1 HL1.out.h).1
  clear HL HT hb1 d0 d1 d2 d3 d4 d5 d6 d7
  obtain ⟨fl, hfl⟩ : ∃ fl, filesM fs = fl := ⟨_, rfl⟩
  rw [hfl] at hrow hfn
  have Hfl := Lib.hid hfl
  clear hfl
  obtain ⟨m, hm⟩ : ∃ m, fl.length = m := ⟨_, rfl⟩
  rw [hm] at hfn
  obtain ⟨gF, capF, ad0, cap0, hv, hF⟩ : ∃ gF capF ad0 cap0, v = .slice ad0 m cap0 ∧ (fl ≠ [] → ad0 = some ⟨gF, 0, none⟩ ∧ cap0 = capF ∧ gF < w1.heap.size ∧ m ≤ capF ∧ WAt w1 gF 0 fl ∧ gF ≠ g) := by
    by_cases hne : fl = []
    · obtain ⟨ad0, cap0, hv⟩ := hrow.form
      exact ⟨0, 0, ad0, cap0, by rw [hv, hm], fun h => absurd hne h⟩
    · obtain ⟨g2, cap2, hv, hbg, hg2, hcap, hat⟩ := hrow.place hne
      exact ⟨g2, cap2, _, _, by rw [hv, hm], fun _ => ⟨rfl, rfl, hg2, by omega, hat, by omega⟩⟩
  subst hv
  have HF := Lib.hid hF
  have Hm := Lib.hid hm
  clear hF hm hrow
  go_wp2
  go_loopw [5, 6] (fun a b wr => ∃ (k : Nat) (adk : Option Addr) (capk : Nat), k ≤ m ∧ a = .slice adk (m - k) capk ∧ (fl ≠ [] → adk = some ⟨gF, k * 4, none⟩ ∧ capk = capF - k) ∧ TRow wr w1.heap.size b ((fl.take k).map rmS) ∧ Below w1.heap.size w1 wr ∧ cutN fl q = k + cutN (fl.drop k) q) (fun a _ _ => lenOfV a)
  case atStart => exact ⟨0, ad0, cap0, Nat.zero_le _, by rw [Nat.sub_zero], fun hne => ⟨(HF.out hne).1, by rw [(HF.out hne).2.1, Nat.sub_zero]⟩, World.ownsRow_nil _ _ _ _, Below.refl _ _, by simp⟩
  case round =>
    obtain ⟨k, adk, capk, hk, rfl, had, htr, hbel, hcut⟩ := hrel
    obtain ⟨p, hp⟩ : ∃ p, m - k = p := ⟨_, rfl⟩
    rw [hp]
    have HLr := Lib.hid (HL1.out.under hbel)
    have Had := Lib.hid had
    have Htr := Lib.hid htr
    have Hbel := Lib.hid hbel
    have Hcut := Lib.hid hcut
    have hrl : ((fl.take k).map rmS).length = k := by rw [List.length_map, List.length_take]; have := Hm.out; omega
    have Hrl := Lib.hid hrl
    have hlgr := (Array.getElem?_eq_some_iff.1 HLr.out.h).1
    clear had htr hbel hcut hrl
    by_cases hp1 : p ≤ 1
    · have hck : cutN fl q = k := by rw [Hcut.out, cutN_end (by have := Hm.out; omega)]; omega
      have Hck := Lib.hid hck
      have hpI : ¬ (1 : Int) < (p : Int) := by omega
      clear hck
      obtain ⟨ads, caps, rfl, hsat⟩ := Htr.out.form g hlg1
      rw [Hrl.out]
      have Hsat := Lib.hid hsat
      clear hsat
      go_wp2_with fail
      have hfit : ∀ s ∈ (fl.take k).map rmS, SFit s := fun s hs => by
        obtain ⟨x, hx, rfl⟩ := List.mem_map.1 hs
        have hm2 := List.mem_of_mem_take hx
        rw [← Hfl.out] at hm2
        unfold filesM at hm2
        obtain ⟨f, hf, hs2⟩ := List.mem_flatMap.1 hm2
        have hxf : x.f = f := by
          unfold sf1 at hs2
          split at hs2
          · simp at hs2; subst hs2; rfl
          · cases hs2
        exact ⟨by show x.f.name.size ≤ _; rw [hxf]; have := right_names HR.out f hf; omega, Nat.zero_le _⟩
      have hldo := ldo_any wr g ad n cap _ ads caps _ HLr.out Hsat.out hfit (by rw [Hrl.out]; omega)
      rw [Hrl.out] at hldo
      refine hldo.mono ?_
      clear hldo hfit
      rintro e w5 ⟨adE, nE, capE, rfl, hL5, hg5, ho5⟩
      obtain ⟨⟨⟨⟨fsE, dnE, fuE, faE⟩, szE, frE, nxE, brE⟩, cE⟩, hr⟩ : ∃ r, dropS ⟨⟨fs, down, fuse, fault⟩, size, fr, nx, broken⟩ q = r := ⟨_, rfl⟩
      have hr2 : doS ⟨⟨fs, down, fuse, fault⟩, size, fr, nx, broken⟩ ((fl.take k).map rmS) = (⟨⟨fsE, dnE, fuE, faE⟩, szE, frE, nxE, brE⟩, cE) := by
        rw [← hr]
        unfold dropS
        rw [Hfl.out, Hck.out]
      rw [hr2] at hL5 ⊢
      have HLE := Lib.hid hL5
      have Hge := Lib.hid (World.grownBy.trans (kd_below (kd_below (kd_refl g w) Hb1.out) Hbel.out) hg5)
      have Hoe := Lib.hid (show ∀ b, (Value.slice adE nE capE).ownBlock = some b → (Value.slice ad n cap).ownBlock = some b ∨ w.heap.size ≤ b from fun b hb => (ho5 b hb).imp id (fun h => by have h1 := Hb1.out.size; have h2 := Hbel.out.size; omega))
      have Hr := Lib.hid hr
      have Hgr5 := Lib.hid hg5
      clear hr hr2 hL5 ho5
      by_cases hcE : cE = 0
      · subst hcE
        rcases (show p = 0 ∨ p = 1 by omega) with rfl | rfl
        ·
          have hB : dropM ⟨⟨fs, down, fuse, fault⟩, size, fr, nx, broken⟩ q = (⟨⟨fsE, dnE, fuE, faE⟩, szE, frE, nxE, brE⟩, 0) := by
            unfold dropM
            rw [Hr.out, Hfl.out, Hck.out, List.getElem?_eq_none (by have := Hm.out; omega)]
            rfl
          have HB := Lib.hid hB
          clear hB
          go_wp2
          exact bodyPost_ret (v := .int .i64 0) (by simp [results, Tryz.results124, go_sem]) rfl ⟨adE, nE, capE, by rw [HB.out], by rw [HB.out]; exact HLE.out, Hge.out, Hoe.out⟩
        · have hne : fl ≠ [] := by rintro rfl; have := Hm.out; simp at this; omega
          obtain ⟨rfl, hck0⟩ := Had.out hne
          obtain ⟨hA0, hC0, hgF, hmc, hat, HFg⟩ := HF.out hne
          obtain ⟨s0, hs0⟩ : ∃ s, fl[k]? = some s := ⟨fl[k]'(by have := Hm.out; omega), by simp⟩
          have Hs0 := Lib.hid hs0
          obtain ⟨a0, a1, a2, a3⟩ := hat k s0 hs0
          rw [Nat.zero_add, ← World.cell?_of_block (Hbel.out.block _ hgF)] at a3
          have hgFr : gF < wr.heap.size := Nat.lt_of_lt_of_le hgF Hbel.out.size
          clear hat hs0 hne hck0 a0 a1 a2 hA0 hC0
          have hB : dropM ⟨⟨fs, down, fuse, fault⟩, size, fr, nx, broken⟩ q = (⟨⟨fsE, dnE, fuE, faE⟩, szE, (s0.n : Int), nxE, brE⟩, 0) := by
            unfold dropM
            rw [Hr.out, Hfl.out, Hck.out, Hs0.out]
            rfl
          have HB := Lib.hid hB
          have HN := Lib.hid (HLE.out.frm (s0.n : Int))
          have Hgn := Lib.hid (kd_set (o := 5) Hge.out (.int .u64 (s0.n : Int)))
          obtain ⟨d0, d1, d2, d3, d4, d5, d6, d7⟩ := box8 HLE.out.h
          have f5 := frozen_of_row w5 g 5 _ 104 HLE.out.h
          have hlgE := (Array.getElem?_eq_some_iff.1 HLE.out.h).1
          have hgne : gF ≠ g := HFg
          have hc5 : w5.cell? ⟨gF, k * 4 + 3, none⟩ = some (.int .u64 (s0.n : Int)) := (World.cell?_of_block (Hgr5.out.block gF hgFr (fun e => hgne (by injection e)))).trans a3
          have hgF5 : gF < w5.heap.size := Nat.lt_of_lt_of_le hgFr Hgr5.out.size
          clear hB
          go_wp2
          exact bodyPost_ret (v := .int .i64 0) (by simp [results, Tryz.results124, go_sem]) rfl ⟨adE, nE, capE, by rw [HB.out], by rw [HB.out]; exact HN.out, Hgn.out, Hoe.out⟩
      · have hB : dropM ⟨⟨fs, down, fuse, fault⟩, size, fr, nx, broken⟩ q = (⟨⟨fsE, dnE, fuE, faE⟩, szE, frE, nxE, brE⟩, cE) := by
          unfold dropM
          rw [Hr.out]
          exact if_neg hcE
        have HB := Lib.hid hB
        have hc1 : (cE != 0) = true := by simp [hcE]
        clear hB hcE
        go_wp2
        exact bodyPost_ret (v := .int .i64 cE) (by simp [results, Tryz.results124, go_sem]) rfl ⟨adE, nE, capE, by rw [HB.out], by rw [HB.out]; exact HLE.out, Hge.out, Hoe.out⟩
    · obtain ⟨p2, rfl⟩ : ∃ p2, p = p2 + 2 := ⟨p - 2, by omega⟩
      have hpI : (1 : Int) < ((p2 + 2 : Nat) : Int) := by omega
      have hne : fl ≠ [] := by rintro rfl; have := Hm.out; simp at this; omega
      obtain ⟨rfl, hck0⟩ := Had.out hne
      obtain ⟨hA0, hC0, hgF, hmc, hat, HFg⟩ := HF.out hne
      obtain ⟨c, rfl⟩ : ∃ c, capk = c + 2 := ⟨capk - 2, by omega⟩
      have Hck0 := Lib.hid hck0
      clear hck0
      obtain ⟨s0, hs0⟩ : ∃ s, fl[k]? = some s := ⟨fl[k]'(by have := Hm.out; omega), by simp⟩
      obtain ⟨s1, hs1⟩ : ∃ s, fl[k + 1]? = some s := ⟨fl[k + 1]'(by have := Hm.out; omega), by simp⟩
      have hcell : ∀ o, wr.cell? ⟨gF, o, none⟩ = w1.cell? ⟨gF, o, none⟩ := fun o => World.cell?_of_block (Hbel.out.block _ hgF)
      obtain ⟨a0, a1, a2, a3⟩ := hat k s0 hs0
      obtain ⟨b0, b1, b2, b3⟩ := hat (k + 1) s1 hs1
      rw [Nat.zero_add, ← hcell] at a0 a1 a2 a3
      rw [Nat.zero_add, ← hcell] at b0 b1 b2 b3
      rw [Nat.add_mul, Nat.one_mul] at b0 b1 b2 b3
      have Hstep := Lib.hid (cutN_step (q := q) hs1)
      have htk : (fl.take (k + 1)).map rmS = (fl.take k).map rmS ++ [rmS s0] := by rw [List.take_add_one, hs0]; simp
      have Htk := Lib.hid htk
      have Hs0 := Lib.hid hs0
      have hgFr : gF < wr.heap.size := Nat.lt_of_lt_of_le hgF Hbel.out.size
      have hcm : 2 ≤ c + 2 := by omega
      clear hat hcell hs1 htk hne hs0 hA0 hC0
      by_cases hle : (s1.n : Int) ≤ q
      · have hc2 : cutN fl q = (k + 1) + cutN (fl.drop (k + 1)) q := by rw [Hcut.out, Hstep.out, if_pos hle]; omega
        have Hc2 := Lib.hid hc2
        clear hc2
        go_wp2_with fail
        refine (removal_any wr s0).mono ?_
        rintro e w2 ⟨rfl, hb2⟩
        have hlow : w1.heap.size ≤ w2.heap.size := Nat.le_trans Hbel.out.size hb2.size
        obtain ⟨v3, w3, hr3, hrow3, hg3'⟩ := app_step w2 w1.heap.size u6 ((fl.take k).map rmS) (rmS s0) hlow (Htr.out.under hb2) (by rw [Hrl.out]; omega)
        rw [← Htk.out] at hrow3
        have hb3 : Below w1.heap.size w1 w3 := ((Hbel.out.trans (hb2.mono Hbel.out.size)).alloc hlow _).grown hg3' (by rw [sz_alloc]; omega) (fun k hk => (World.ownsRow.lt Htr.out k hk).1)
        have hr4 : (Builtin.append_ #[98, 98] 98 #[u6, .slice (some ⟨w2.heap.size, 0, none⟩) 1 1]).run Tryz.prog (w2.alloc (.cells #[.int .u8 5, .string s0.f.name, .string ⟨#[]⟩, .int .i64 0] 150)) = .ok v3 w3 := hr3
        have Hrow3 := Lib.hid hrow3
        have Hb3 := Lib.hid hb3
        clear hrow3 hg3' hb3 hr3 hb2 a0 a1 a2 a3 b0 b1 b2 b3
        go_wp2_with (at_builtin; refine wp_app rfl (.tmp 25) (.tmp 30) u6 (.slice (some ⟨w2.heap.size, 0, none⟩) 1 1) (by rfl) (by rfl) rfl hr4 ?_)
        clear hr4
        go_wp2
        go_roundw
        case rel => exact ⟨k + 1, some ⟨gF, k * 4 + 4, none⟩, c + 1, by omega, (by rw [show m - (k + 1) = p2 + 1 by omega]), fun _ => ⟨by rw [Nat.add_mul, Nat.one_mul], by have := Hck0.out; omega⟩, Hrow3.out, Hb3.out, Hc2.out⟩
        case measure => simp [lenOfV]
      · have hck : cutN fl q = k := by rw [Hcut.out, Hstep.out, if_neg hle]; omega
        have Hck := Lib.hid hck
        clear hck
        obtain ⟨ads, caps, rfl, hsat⟩ := Htr.out.form g hlg1
        rw [Hrl.out]
        have Hsat := Lib.hid hsat
        clear hsat
        go_wp2_with fail
        have hfit : ∀ s ∈ (fl.take k).map rmS, SFit s := fun s hs => by
          obtain ⟨x, hx, rfl⟩ := List.mem_map.1 hs
          have hm2 := List.mem_of_mem_take hx
          rw [← Hfl.out] at hm2
          unfold filesM at hm2
          obtain ⟨f, hf, hs2⟩ := List.mem_flatMap.1 hm2
          have hxf : x.f = f := by
            unfold sf1 at hs2
            split at hs2
            · simp at hs2; subst hs2; rfl
            · cases hs2
          exact ⟨by show x.f.name.size ≤ _; rw [hxf]; have := right_names HR.out f hf; omega, Nat.zero_le _⟩
        have hldo := ldo_any wr g ad n cap _ ads caps _ HLr.out Hsat.out hfit (by rw [Hrl.out]; omega)
        rw [Hrl.out] at hldo
        refine hldo.mono ?_
        clear hldo hfit
        rintro e w5 ⟨adE, nE, capE, rfl, hL5, hg5, ho5⟩
        obtain ⟨⟨⟨⟨fsE, dnE, fuE, faE⟩, szE, frE, nxE, brE⟩, cE⟩, hr⟩ : ∃ r, dropS ⟨⟨fs, down, fuse, fault⟩, size, fr, nx, broken⟩ q = r := ⟨_, rfl⟩
        have hr2 : doS ⟨⟨fs, down, fuse, fault⟩, size, fr, nx, broken⟩ ((fl.take k).map rmS) = (⟨⟨fsE, dnE, fuE, faE⟩, szE, frE, nxE, brE⟩, cE) := by
          rw [← hr]
          unfold dropS
          rw [Hfl.out, Hck.out]
        rw [hr2] at hL5 ⊢
        have HLE := Lib.hid hL5
        have Hge := Lib.hid (World.grownBy.trans (kd_below (kd_below (kd_refl g w) Hb1.out) Hbel.out) hg5)
        have Hoe := Lib.hid (show ∀ b, (Value.slice adE nE capE).ownBlock = some b → (Value.slice ad n cap).ownBlock = some b ∨ w.heap.size ≤ b from fun b hb => (ho5 b hb).imp id (fun h => by have h1 := Hb1.out.size; have h2 := Hbel.out.size; omega))
        have Hr := Lib.hid hr
        have Hgr5 := Lib.hid hg5
        clear hr hr2 hL5 ho5
        by_cases hcE : cE = 0
        · subst hcE
          have hB : dropM ⟨⟨fs, down, fuse, fault⟩, size, fr, nx, broken⟩ q = (⟨⟨fsE, dnE, fuE, faE⟩, szE, (s0.n : Int), nxE, brE⟩, 0) := by
            unfold dropM
            rw [Hr.out, Hfl.out, Hck.out, Hs0.out]
            rfl
          have HB := Lib.hid hB
          have HN := Lib.hid (HLE.out.frm (s0.n : Int))
          have Hgn := Lib.hid (kd_set (o := 5) Hge.out (.int .u64 (s0.n : Int)))
          obtain ⟨d0, d1, d2, d3, d4, d5, d6, d7⟩ := box8 HLE.out.h
          have f5 := frozen_of_row w5 g 5 _ 104 HLE.out.h
          have hlgE := (Array.getElem?_eq_some_iff.1 HLE.out.h).1
          have hgne : gF ≠ g := HFg
          have hc5 : w5.cell? ⟨gF, k * 4 + 3, none⟩ = some (.int .u64 (s0.n : Int)) := (World.cell?_of_block (Hgr5.out.block gF hgFr (fun e => hgne (by injection e)))).trans a3
          have hgF5 : gF < w5.heap.size := Nat.lt_of_lt_of_le hgFr Hgr5.out.size
          clear hB
          go_wp2
          exact bodyPost_ret (v := .int .i64 0) (by simp [results, Tryz.results124, go_sem]) rfl ⟨adE, nE, capE, by rw [HB.out], by rw [HB.out]; exact HN.out, Hgn.out, Hoe.out⟩
        · have hB : dropM ⟨⟨fs, down, fuse, fault⟩, size, fr, nx, broken⟩ q = (⟨⟨fsE, dnE, fuE, faE⟩, szE, frE, nxE, brE⟩, cE) := by
            unfold dropM
            rw [Hr.out]
            exact if_neg hcE
          have HB := Lib.hid hB
          have hc1 : (cE != 0) = true := by simp [hcE]
          clear hB hcE
          go_wp2
          exact bodyPost_ret (v := .int .i64 cE) (by simp [results, Tryz.results124, go_sem]) rfl ⟨adE, nE, capE, by rw [HB.out], by rw [HB.out]; exact HLE.out, Hge.out, Hoe.out⟩
end Go.Proofs.YtlgbehagflnfgaaGreatDoor

/- SEGMENT, MATHEMATICS: what is read of files; what is mended. -/
namespace Go.Proofs.YtlgbehagflnfgaaGreatDoor
open Go.RowKit
set_option maxRecDepth 100000
set_option linter.unusedVariables false
set_option linter.unusedSimpArgs false

/-- what is read of files from a number on: records, the number to come, what is cut off, the files behind the end -/
structure RD where
  rs : List Rec
  nx : Nat
  cut : List S
  rest : List SF
noncomputable def rdM : Nat → List SF → RD
  | n, [] => ⟨[], n, [], []⟩
  | n, s :: t => if s.n = n then
      (if sumL (framesL s.f.data n) < s.f.data.size then ⟨framesL s.f.data n, n + (framesL s.f.data n).length, [⟨4, s.f.name, ⟨#[]⟩, (sumL (framesL s.f.data n) : Nat)⟩], t⟩
       else ⟨framesL s.f.data n ++ (rdM (n + (framesL s.f.data n).length) t).rs, (rdM (n + (framesL s.f.data n).length) t).nx, (rdM (n + (framesL s.f.data n).length) t).cut, (rdM (n + (framesL s.f.data n).length) t).rest⟩)
    else ⟨[], n, [], s :: t⟩
theorem rdM_torn {n : Nat} {s : SF} {t : List SF} (h : s.n = n) (h2 : sumL (framesL s.f.data n) < s.f.data.size) : rdM n (s :: t) = ⟨framesL s.f.data n, n + (framesL s.f.data n).length, [⟨4, s.f.name, ⟨#[]⟩, (sumL (framesL s.f.data n) : Nat)⟩], t⟩ := by rw [rdM, if_pos h, if_pos h2]
theorem rdM_on {n : Nat} {s : SF} {t : List SF} (h : s.n = n) (h2 : ¬ sumL (framesL s.f.data n) < s.f.data.size) : rdM n (s :: t) = ⟨framesL s.f.data n ++ (rdM (n + (framesL s.f.data n).length) t).rs, (rdM (n + (framesL s.f.data n).length) t).nx, (rdM (n + (framesL s.f.data n).length) t).cut, (rdM (n + (framesL s.f.data n).length) t).rest⟩ := by rw [rdM, if_pos h, if_neg h2]
theorem rdM_end {n : Nat} {s : SF} {t : List SF} (h : ¬ s.n = n) : rdM n (s :: t) = ⟨[], n, [], s :: t⟩ := by rw [rdM, if_neg h]
theorem rdM_rest : ∀ (l : List SF) (n : Nat), ∃ A, l = A ++ (rdM n l).rest
  | [], n => ⟨[], rfl⟩
  | s :: t, n => by
    by_cases h : s.n = n
    · by_cases h2 : sumL (framesL s.f.data n) < s.f.data.size
      · rw [rdM_torn h h2]; exact ⟨[s], rfl⟩
      · rw [rdM_on h h2]
        obtain ⟨A, hA⟩ := rdM_rest t (n + (framesL s.f.data n).length)
        exact ⟨s :: A, by simp only [List.cons_append]; rw [← hA]⟩
    · rw [rdM_end h]; exact ⟨[], rfl⟩
theorem rdM_cut : ∀ (l : List SF) (n : Nat), (rdM n l).cut = [] ∨ ∃ c, (rdM n l).cut = [c]
  | [], n => .inl rfl
  | s :: t, n => by
    by_cases h : s.n = n
    · by_cases h2 : sumL (framesL s.f.data n) < s.f.data.size
      · rw [rdM_torn h h2]; exact .inr ⟨_, rfl⟩
      · rw [rdM_on h h2]; exact rdM_cut t _
    · rw [rdM_end h]; exact .inl rfl
theorem snoc_inj {α : Type} {a b : List α} {x y : α} (h : a ++ [x] = b ++ [y]) : a = b ∧ x = y := by
  have := List.append_inj' h rfl
  exact ⟨this.1, by simpa using this.2⟩
/-- a last file that lies behind the end is left out -/
theorem rdM_less : ∀ (l : List SF) (n : Nat) (s : SF) (r0 : List SF), (rdM n (l ++ [s])).rest = r0 ++ [s] → rdM n l = ⟨(rdM n (l ++ [s])).rs, (rdM n (l ++ [s])).nx, (rdM n (l ++ [s])).cut, r0⟩
  | [], n, s, r0, h => by
    by_cases h1 : s.n = n
    · by_cases h2 : sumL (framesL s.f.data n) < s.f.data.size
      · rw [List.nil_append, rdM_torn h1 h2] at h; simp at h
      · rw [List.nil_append, rdM_on h1 h2] at h; simp [rdM] at h
    · rw [List.nil_append, rdM_end h1] at h ⊢
      have : r0 = [] := by
        have := snoc_inj (a := []) (b := r0) h
        exact this.1.symm
      subst this
      rfl
  | x :: l, n, s, r0, h => by
    rw [List.cons_append] at h ⊢
    by_cases h1 : x.n = n
    · by_cases h2 : sumL (framesL x.f.data n) < x.f.data.size
      · rw [rdM_torn h1 h2] at h ⊢
        rw [rdM_torn h1 h2]
        rw [(snoc_inj h).1]
      · rw [rdM_on h1 h2] at h ⊢
        rw [rdM_on h1 h2, rdM_less l _ s r0 h]
    · rw [rdM_end h1] at h ⊢
      rw [rdM_end h1]
      have : x :: l = r0 := (snoc_inj (a := x :: l) h).1
      rw [this]
/-- a last file that is torn -/
theorem rdM_trim : ∀ (l : List SF) (n : Nat) (c : S), (rdM n l).rest = [] → (rdM n l).cut = [c] → ∃ l0 s k, l = l0 ++ [s] ∧ c = ⟨4, s.f.name, ⟨#[]⟩, (k : Nat)⟩ ∧ k ≤ s.f.data.size ∧
      ∀ s' : SF, s'.n = s.n → s'.f.data = s.f.data.extract 0 k → rdM n (l0 ++ [s']) = ⟨(rdM n l).rs, (rdM n l).nx, [], []⟩
  | [], n, c, _, h => by simp [rdM] at h
  | x :: l, n, c, h, hc => by
    by_cases h1 : x.n = n
    · by_cases h2 : sumL (framesL x.f.data n) < x.f.data.size
      · rw [rdM_torn h1 h2] at h hc ⊢
        simp only at h hc
        subst h
        refine ⟨[], x, sumL (framesL x.f.data n), rfl, by injection hc with hc; exact hc.symm, by omega, fun s' e1 e2 => ?_⟩
        have hz : (x.f.data.extract 0 (sumL (framesL x.f.data n))).size = sumL (framesL x.f.data n) := by rw [ByteArray.size_extract]; omega
        have hft : framesL s'.f.data n = framesL x.f.data n := by rw [e2, frames_trim]
        rw [List.nil_append, rdM_on (by rw [e1, h1]) (by rw [hft, e2, hz]; omega), hft]
        simp [rdM]
      · rw [rdM_on h1 h2] at h hc ⊢
        obtain ⟨l0, s, k, rfl, e2, e3, e4⟩ := rdM_trim l _ c h hc
        refine ⟨x :: l0, s, k, rfl, e2, e3, fun s' a b => ?_⟩
        rw [List.cons_append, rdM_on h1 h2, e4 s' a b]
    · rw [rdM_end h1] at hc; cases hc
/-- all of it is read: what is behind is read from there on -/
theorem rdM_app : ∀ (l t : List SF) (n : Nat), (rdM n l).cut = [] → (rdM n l).rest = [] → rdM n (l ++ t) = ⟨(rdM n l).rs ++ (rdM (rdM n l).nx t).rs, (rdM (rdM n l).nx t).nx, (rdM (rdM n l).nx t).cut, (rdM (rdM n l).nx t).rest⟩
  | [], t, n, _, _ => by simp [rdM]
  | x :: l, t, n, h, hr => by
    by_cases h1 : x.n = n
    · by_cases h2 : sumL (framesL x.f.data n) < x.f.data.size
      · rw [rdM_torn h1 h2] at h; cases h
      · rw [rdM_on h1 h2] at h hr ⊢
        rw [List.cons_append, rdM_on h1 h2, rdM_app l t _ h hr]
        simp
    · rw [rdM_end h1] at hr; cases hr
theorem rdM_pre : ∀ (l t : List SF) (n : Nat), (rdM n (l ++ t)).cut = [] → (rdM n (l ++ t)).rest = [] → (rdM n l).cut = [] ∧ (rdM n l).rest = []
  | [], t, n, _, _ => ⟨rfl, rfl⟩
  | x :: l, t, n, h, hr => by
    rw [List.cons_append] at h hr
    by_cases h1 : x.n = n
    · by_cases h2 : sumL (framesL x.f.data n) < x.f.data.size
      · rw [rdM_torn h1 h2] at h; cases h
      · rw [rdM_on h1 h2] at h hr ⊢
        exact rdM_pre l t _ h hr
    · rw [rdM_end h1] at hr; cases hr
theorem rdM_len : ∀ (l : List SF) (n : Nat), (rdM n l).nx = n + (rdM n l).rs.length
  | [], n => rfl
  | x :: l, n => by
    by_cases h1 : x.n = n
    · by_cases h2 : sumL (framesL x.f.data n) < x.f.data.size
      · rw [rdM_torn h1 h2]
      · rw [rdM_on h1 h2, List.length_append, rdM_len l]; omega
    · rw [rdM_end h1]; rfl
theorem rdM_seq : ∀ (l : List SF) (n i : Nat) (r : Rec), (rdM n l).rs[i]? = some r → r.seq = n + i
  | [], n, i, r, h => by simp [rdM] at h
  | x :: l, n, i, r, h => by
    by_cases h1 : x.n = n
    · by_cases h2 : sumL (framesL x.f.data n) < x.f.data.size
      · rw [rdM_torn h1 h2] at h; exact frames_seq _ _ _ _ h
      · rw [rdM_on h1 h2] at h
        simp only at h
        rw [List.getElem?_append] at h
        split at h
        · exact frames_seq _ _ _ _ h
        · have := rdM_seq l _ _ r h; omega
    · rw [rdM_end h1] at h; simp at h
/-- numbers stay within -/
theorem frames_bd (s : ByteArray) (n : Nat) (h : n ≤ 4611686018427387904) : n + (framesL s n).length ≤ 4611686018427387904 := by
  rcases Nat.eq_zero_or_pos (framesL s n).length with e | e
  · omega
  · obtain ⟨r, hr⟩ : ∃ r, (framesL s n)[(framesL s n).length - 1]? = some r := ⟨(framesL s n)[(framesL s n).length - 1]'(by omega), by simp⟩
    have h1 := frames_seq _ _ _ _ hr
    have h2 := r.h1
    omega
theorem rdM_bd : ∀ (l : List SF) (n : Nat), n ≤ 4611686018427387904 → (rdM n l).nx ≤ 4611686018427387904
  | [], n, h => h
  | x :: l, n, h => by
    by_cases h1 : x.n = n
    · by_cases h2 : sumL (framesL x.f.data n) < x.f.data.size
      · rw [rdM_torn h1 h2]; exact frames_bd _ _ h
      · rw [rdM_on h1 h2]; exact rdM_bd l _ (frames_bd _ _ h)
    · rw [rdM_end h1]; exact h
/-- the first number -/
def fromM : List SF → Nat
  | [] => 1
  | s :: _ => s.n
theorem fromM_bd (l : List SF) : fromM l ≤ 4611686018427387904 := by
  cases l with
  | nil => show 1 ≤ _; omega
  | cons s t => exact s.hn
/-- what is read of a disk's files -/
noncomputable def rdF (fs : List F) : RD := rdM (fromM (filesM fs)) (filesM fs)
/-- what must be done -/
noncomputable def mendM (fs : List F) : List S := (rdF fs).rest.reverse.map rmS ++ (rdF fs).cut

theorem sf1_eq {f : F} {s : SF} (h : s ∈ sf1 f) : s.f = f ∧ f.name = nameB s.n ∧ sf1 f = [s] := by
  cases hn : numB f.name with
  | none => rw [sf1_none hn] at h; cases h
  | some n =>
    rw [sf1_some hn] at h ⊢
    rw [List.mem_singleton] at h
    subst h
    exact ⟨rfl, (numB_some hn).2, rfl⟩
theorem filesM_mem {fs : List F} {s : SF} (h : s ∈ filesM fs) : s.f ∈ fs ∧ s.f.name = nameB s.n ∧ sf1 s.f = [s] := by
  obtain ⟨f, hf, hs⟩ := List.mem_flatMap.1 h
  obtain ⟨e1, e2, e3⟩ := sf1_eq hs
  subst e1
  exact ⟨hf, e2, e3⟩
theorem filesM_app (a b : List F) : filesM (a ++ b) = filesM a ++ filesM b := by simp [filesM]
theorem filesM_cons (f : F) (b : List F) : filesM (f :: b) = sf1 f ++ filesM b := by simp [filesM]
theorem filesM_pw : ∀ (fs : List F), (fs.map F.name).Pairwise (fun a b => lt a b = true) → (filesM fs).Pairwise (fun a b => a.n < b.n)
  | [], _ => List.Pairwise.nil
  | f :: fs, h => by
    rw [List.map_cons, List.pairwise_cons] at h
    rw [filesM_cons, List.pairwise_append]
    refine ⟨?_, filesM_pw fs h.2, fun a ha b hb => ?_⟩
    · cases hn : numB f.name with
      | none => rw [sf1_none hn]; exact List.Pairwise.nil
      | some n => rw [sf1_some hn]; exact List.pairwise_singleton _ _
    · obtain ⟨e1, e2, _⟩ := sf1_eq ha
      obtain ⟨g1, g2, _⟩ := filesM_mem hb
      have := h.1 b.f.name (List.mem_map_of_mem g1)
      rw [e2, g2] at this
      have h1 := a.hn
      have h2 := b.hn
      exact nameB_mono (by omega) (by omega) this
theorem filesM_up {fs : List F} (hR : Right fs) : (filesM fs).Pairwise (fun a b => a.n < b.n) := filesM_pw fs (right_iff.1 hR).2.2
theorem split_uniq : ∀ (X l Y r : List SF) (s : SF), (X ++ s :: Y).Pairwise (fun a b => a.n < b.n) → X ++ s :: Y = l ++ s :: r → X = l ∧ Y = r
  | [], [], Y, r, s, _, h => ⟨rfl, by simpa using h⟩
  | [], y :: l, Y, r, s, hp, h => by
    simp only [List.nil_append, List.cons_append, List.cons.injEq] at h
    obtain ⟨h1, h2⟩ := h
    subst h1
    rw [List.nil_append, List.pairwise_cons] at hp
    have := hp.1 s (by rw [h2]; simp)
    omega
  | x :: X, [], Y, r, s, hp, h => by
    simp only [List.nil_append, List.cons_append, List.cons.injEq] at h
    obtain ⟨h1, h2⟩ := h
    subst h1
    rw [List.cons_append, List.pairwise_cons] at hp
    have := hp.1 x (by simp)
    omega
  | x :: X, y :: l, Y, r, s, hp, h => by
    simp only [List.cons_append, List.cons.injEq] at h
    obtain ⟨rfl, h2⟩ := h
    rw [List.cons_append, List.pairwise_cons] at hp
    obtain ⟨e1, e2⟩ := split_uniq X l Y r s hp.2 h2
    exact ⟨by rw [e1], e2⟩
/-- where a file lies -/
theorem file_at {fs : List F} (hR : Right fs) {l r : List SF} {s : SF} (h : filesM fs = l ++ s :: r) :
    found fs s.f.name = some s.f ∧ fs[pos fs s.f.name]? = some s.f ∧ fs = fs.take (pos fs s.f.name) ++ s.f :: fs.drop (pos fs s.f.name + 1) ∧ filesM (fs.take (pos fs s.f.name)) = l ∧ filesM (fs.drop (pos fs s.f.name + 1)) = r := by
  have hm : s ∈ filesM fs := by rw [h]; simp
  obtain ⟨h1, h2, h3⟩ := filesM_mem hm
  have hf := (found_iff hR).2 ⟨h1, rfl⟩
  have hp := (found_some hf).1
  have hl := (List.getElem?_eq_some_iff.1 hp).1
  have he : fs = fs.take (pos fs s.f.name) ++ s.f :: fs.drop (pos fs s.f.name + 1) := by
    have h0 := (List.take_append_drop (pos fs s.f.name) fs).symm
    rw [List.drop_eq_getElem_cons hl, (List.getElem?_eq_some_iff.1 hp).2] at h0
    exact h0
  have hq : filesM fs = filesM (fs.take (pos fs s.f.name)) ++ s :: filesM (fs.drop (pos fs s.f.name + 1)) := by
    have h0 := congrArg filesM he
    rw [filesM_app, filesM_cons, h3] at h0
    simpa using h0
  have hu := filesM_up hR
  rw [hq] at hu h
  obtain ⟨a, b⟩ := split_uniq _ _ _ _ _ hu h
  exact ⟨hf, hp, he, a, b⟩
theorem sf1_name {f : F} {s : SF} (h : f.name = s.f.name) (hs : sf1 s.f = [s]) : sf1 f = [⟨f, s.n, s.hn⟩] := by
  cases hn : numB s.f.name with
  | none => rw [sf1_none hn] at hs; cases hs
  | some n =>
    rw [sf1_some hn] at hs
    have e := sf1_some (f := f) (n := n) (by rw [h]; exact hn)
    rw [e]
    have e2 : n = s.n := by injection hs with hs _; exact congrArg SF.n hs
    subst e2
    rfl
/-- a file is taken away -/
theorem files_rm {fs : List F} (hR : Right fs) {l r : List SF} {s : SF} (h : filesM fs = l ++ s :: r) : ref fs (rmS s) = 0 ∧ filesM (eff fs (rmS s)) = l ++ r := by
  obtain ⟨hf, hp, he, h1, h2⟩ := file_at hR h
  constructor
  · unfold ref
    rw [if_neg (by first | decide | (simp only [rmS]; decide))]
    simp only [hf]
    rw [if_neg (by first | decide | (simp only [rmS]; decide)), if_neg (by first | decide | (simp only [rmS]; decide))]
  · unfold eff
    rw [if_neg (by first | decide | (simp only [rmS]; decide))]
    simp only [hf]
    rw [if_neg (by first | decide | (simp only [rmS]; decide)), if_neg (by first | decide | (simp only [rmS]; decide)), if_neg (by first | decide | (simp only [rmS]; decide)), filesM_app, h1, h2]
/-- a file is set -/
theorem files_set {fs : List F} (hR : Right fs) {l r : List SF} {s : SF} (h : filesM fs = l ++ s :: r) (g : F) (hn : g.name = s.f.name) : filesM (fs.set (pos fs s.f.name) g) = l ++ ⟨g, s.n, s.hn⟩ :: r := by
  obtain ⟨hf, hp, he, h1, h2⟩ := file_at hR h
  have hl := (List.getElem?_eq_some_iff.1 hp).1
  obtain ⟨_, _, h3⟩ := filesM_mem (s := s) (fs := fs) (by rw [h]; simp)
  rw [List.set_eq_take_append_cons_drop, if_pos hl, filesM_app, filesM_cons, h1, h2, sf1_name hn h3]
  rfl
/-- a file is cut -/
theorem files_cut {fs : List F} (hR : Right fs) {l r : List SF} {s : SF} (h : filesM fs = l ++ s :: r) (k : Nat) (hk : k ≤ s.f.data.size) (x : ByteArray) :
    ref fs ⟨4, s.f.name, x, (k : Nat)⟩ = 0 ∧ filesM (eff fs ⟨4, s.f.name, x, (k : Nat)⟩) = l ++ ⟨⟨s.f.name, s.f.data.extract 0 k, (k : Nat)⟩, s.n, s.hn⟩ :: r := by
  obtain ⟨hf, hp, he, h1, h2⟩ := file_at hR h
  constructor
  · unfold ref
    rw [if_neg (by first | decide | (simp only [rmS]; decide))]
    simp only [hf]
    rw [if_neg (by first | decide | (simp only [rmS]; decide)), if_pos (by first | decide | (simp only [rmS]; decide)), if_neg (by omega)]
  · unfold eff
    rw [if_neg (by first | decide | (simp only [rmS]; decide))]
    simp only [hf]
    rw [if_neg (by first | decide | (simp only [rmS]; decide)), if_neg (by first | decide | (simp only [rmS]; decide)), if_pos (by first | decide | (simp only [rmS]; decide))]
    exact files_set hR h _ rfl
/-- one thing is mended: the rest is to be mended then -/
theorem mend_one {fs : List F} (hR : Right fs) {m : S} {ms : List S} (h : mendM fs = m :: ms) :
    (1 ≤ m.kind ∧ m.kind ≤ 5) ∧ ref fs m = 0 ∧ Right (eff fs m) ∧ mendM (eff fs m) = ms ∧ (rdF (eff fs m)).rs = (rdF fs).rs ∧ (rdF (eff fs m)).nx = (rdF fs).nx ∧ fromM (filesM (eff fs m)) = fromM (filesM fs) ∧ m.name.size ≤ 4096 ∧ m.data.size = 0 ∧ (m.kind = 4 ∨ m.kind = 5) := by
  unfold mendM at h
  obtain ⟨A, hA⟩ := rdM_rest (filesM fs) (fromM (filesM fs))
  have hok : ∀ s ∈ filesM fs, s.f.name.size ≤ 4096 := fun s hs => (hR.ok _ (filesM_mem hs).1).1.2
  rcases List.eq_nil_or_concat (rdF fs).rest with hr | ⟨r0, s, hr⟩
  · -- the cut
    rw [hr, List.reverse_nil, List.map_nil, List.nil_append] at h
    rcases rdM_cut (filesM fs) (fromM (filesM fs)) with e | ⟨c, e⟩
    · have : (rdF fs).cut = [] := e
      rw [this] at h; cases h
    have e' : (rdF fs).cut = [c] := e
    rw [e'] at h
    injection h with hm hms
    subst hm hms
    obtain ⟨l0, s, k, e1, e2, e3, e4⟩ := rdM_trim _ _ _ hr e
    have hs : s ∈ filesM fs := by rw [e1]; simp
    obtain ⟨f1, f2⟩ := files_cut hR e1 k e3 ⟨#[]⟩
    rw [← e2] at f1 f2
    have hk : 1 ≤ c.kind ∧ c.kind ≤ 5 := by rw [e2]; exact ⟨by first | decide | (simp only [rmS]; decide), by first | decide | (simp only [rmS]; decide)⟩
    have hfrom : fromM (l0 ++ [⟨⟨s.f.name, s.f.data.extract 0 k, (k : Nat)⟩, s.n, s.hn⟩]) = fromM (filesM fs) := by
      rw [e1]
      cases l0 <;> rfl
    have hrd : rdF (eff fs c) = ⟨(rdF fs).rs, (rdF fs).nx, [], []⟩ := by
      unfold rdF
      rw [f2, hfrom]
      exact e4 _ rfl rfl
    refine ⟨hk, f1, right_eff hR hk f1, ?_, by rw [hrd], by rw [hrd], by rw [f2, hfrom], by rw [e2]; exact hok s hs, by rw [e2]; rfl, by rw [e2]; exact .inl rfl⟩
    unfold mendM
    rw [hrd]
    rfl
  · -- a file
    rw [List.concat_eq_append] at hr
    rw [hr, List.reverse_append, List.reverse_singleton, List.singleton_append, List.map_cons, List.cons_append] at h
    injection h with hm hms
    subst hm
    have hA' : filesM fs = (A ++ r0) ++ [s] := by
      have h0 : (rdM (fromM (filesM fs)) (filesM fs)).rest = r0 ++ [s] := hr
      rw [h0] at hA
      rw [hA, List.append_assoc]
    have hs : s ∈ filesM fs := by rw [hA']; simp
    obtain ⟨f1, f2⟩ := files_rm hR hA'
    rw [List.append_nil] at f2
    have hne : A ++ r0 ≠ [] := by
      intro e
      have h0 : (rdM (fromM (filesM fs)) (filesM fs)).rest = r0 ++ [s] := hr
      rw [hA', e, List.nil_append] at h0
      have h1 : rdM (fromM [s]) [s] = rdM s.n [s] := rfl
      rw [h1] at h0
      by_cases h2 : sumL (framesL s.f.data s.n) < s.f.data.size
      · rw [rdM_torn rfl h2] at h0; simp at h0
      · rw [rdM_on rfl h2] at h0; simp [rdM] at h0
    have hfrom : fromM (A ++ r0) = fromM (filesM fs) := by
      rw [hA']
      cases hx : A ++ r0 with
      | nil => exact absurd hx hne
      | cons y l => rfl
    have hrd : rdF (eff fs (rmS s)) = ⟨(rdF fs).rs, (rdF fs).nx, (rdF fs).cut, r0⟩ := by
      unfold rdF
      rw [f2, hfrom]
      have h0 : (rdM (fromM (filesM fs)) (filesM fs)).rest = r0 ++ [s] := hr
      have := rdM_less (A ++ r0) (fromM (filesM fs)) s r0 (by rw [← hA']; exact h0)
      rw [← hA'] at this
      exact this
    refine ⟨⟨by first | decide | (simp only [rmS]; decide), by first | decide | (simp only [rmS]; decide)⟩, f1, right_eff hR ⟨by first | decide | (simp only [rmS]; decide), by first | decide | (simp only [rmS]; decide)⟩ f1, ?_, by rw [hrd], by rw [hrd], by rw [f2, hfrom], hok s hs, rfl, .inr rfl⟩
    unfold mendM
    rw [hrd]
    exact hms
end Go.Proofs.YtlgbehagflnfgaaGreatDoor

/- SEGMENT, MATHEMATICS: a log that was appended to, and nothing else; what a crash leaves of it. -/
namespace Go.Proofs.YtlgbehagflnfgaaGreatDoor
open Go.RowKit
set_option maxRecDepth 100000
set_option linter.unusedVariables false
set_option linter.unusedSimpArgs false

/-- the files of a log without anything else, all synced, whole -/
structure KK (fs : List F) (fr : Nat) (rs : List Rec) : Prop where
  R : Right fs
  lg : ∀ f ∈ fs, numB f.name ≠ none
  sy : ∀ f ∈ fs, f.syn = (f.data.size : Int)
  rd : rdM fr (filesM fs) = ⟨rs, fr + rs.length, [], []⟩
  fm : fromM (filesM fs) = fr
theorem kk_nil : KK [] 1 [] := ⟨right_nil, (fun _ h => by cases h), (fun _ h => by cases h), rfl, rfl⟩
theorem rdM_empty {n : Nat} {s : SF} (h : s.n = n) (hz : s.f.data.size = 0) : rdM n [s] = ⟨[], n, [], []⟩ := by
  have e : framesL s.f.data n = [] := framesL_nil hz _
  rw [rdM_on h (by rw [hz]; exact Nat.not_lt_zero _), e]
  rfl
theorem files_map : ∀ (fs : List F), (∀ f ∈ fs, numB f.name ≠ none) → (filesM fs).map SF.f = fs
  | [], _ => rfl
  | f :: fs, h => by
    rw [filesM_cons, List.map_append, files_map fs (fun g hg => h g (List.mem_cons_of_mem _ hg))]
    cases hn : numB f.name with
    | none => exact absurd hn (h f (by simp))
    | some n => rw [sf1_some hn]; rfl
theorem rdM_count : ∀ (l : List SF) (n : Nat), (∀ s ∈ l, s.f.data.size ≤ 262144) → (rdM n l).rs.length ≤ 262144 * l.length
  | [], n, _ => by simp [rdM]
  | s :: t, n, h => by
    have h0 := framesL_len s.f.data n
    have hs := h s (by simp)
    by_cases h1 : s.n = n
    · by_cases h2 : sumL (framesL s.f.data n) < s.f.data.size
      · rw [rdM_torn h1 h2, List.length_cons]; simp only; omega
      · rw [rdM_on h1 h2, List.length_cons]
        have := rdM_count t (n + (framesL s.f.data n).length) (fun x hx => h x (List.mem_cons_of_mem _ hx))
        simp only [List.length_append]
        omega
    · rw [rdM_end h1]; simp
theorem kk_bound {fs : List F} {fr : Nat} {rs : List Rec} (h : KK fs fr rs) : rs.length ≤ 16777216 := by
  have h1 := rdM_count (filesM fs) fr (fun s hs => (h.R.ok _ (filesM_mem hs).1).2.1)
  rw [h.rd] at h1
  have h2 := filesM_len fs
  have h3 := h.R.1
  simp only at h1
  omega
theorem kk_rdF {fs : List F} {fr : Nat} {rs : List Rec} (h : KK fs fr rs) : rdF fs = ⟨rs, fr + rs.length, [], []⟩ := by unfold rdF; rw [h.fm, h.rd]
theorem kk_mend {fs : List F} {fr : Nat} {rs : List Rec} (h : KK fs fr rs) : mendM fs = [] := by unfold mendM; rw [kk_rdF h]; rfl
theorem crash_synced {fs : List F} (hR : Right fs) (hs : ∀ f ∈ fs, f.syn = (f.data.size : Int)) (ks : List Int) : crashL ks fs = fs := by
  apply List.ext_getElem?
  intro i
  cases hf : fs[i]? with
  | none =>
    rw [List.getElem?_eq_none_iff] at hf ⊢
    rw [crashL_len]; exact hf
  | some f =>
    rw [crashL_at ks fs i f hf]
    have hm := List.mem_of_getElem? hf
    have h1 := keptS_bd (hR.ok f hm) ks[i]?
    have h2 := hs f hm
    have h3 : keptS ks[i]? f = (f.data.size : Int) := by omega
    unfold crash1
    rw [h3]
    have h4 : f.data.extract 0 ((f.data.size : Int)).toNat = f.data := by
      apply bs_inj; rw [bs_ext, List.drop_zero, List.take_of_length_le (by rw [bs_len]; simp)]
    rw [h4, ← h2]
theorem kk_crash {fs : List F} {fr : Nat} {rs : List Rec} (h : KK fs fr rs) (ks : List Int) : crashL ks fs = fs := crash_synced h.R h.sy ks
/-- the last file, in both lists -/
theorem last_at {fs : List F} (hlg : ∀ f ∈ fs, numB f.name ≠ none) {l0 : List SF} {s : SF} (h : filesM fs = l0 ++ [s]) : ∃ fs0, fs = fs0 ++ [s.f] ∧ filesM fs0 = l0 := by
  have hm := files_map fs hlg
  rw [h, List.map_append, List.map_singleton] at hm
  refine ⟨l0.map SF.f, hm.symm, ?_⟩
  have hm2 : s ∈ filesM fs := by rw [h]; simp
  obtain ⟨_, _, h3⟩ := filesM_mem hm2
  rw [← hm, filesM_app, filesM_cons, h3] at h
  exact (snoc_inj h).1
/-- of the last file of a whole log -/
theorem kk_last {fs : List F} {fr : Nat} {rs : List Rec} (h : KK fs fr rs) {l0 : List SF} {s : SF} (hl : filesM fs = l0 ++ [s]) :
    ∃ r0, rdM fr l0 = ⟨r0, fr + r0.length, [], []⟩ ∧ s.n = fr + r0.length ∧ sumL (framesL s.f.data s.n) = s.f.data.size ∧ rs = r0 ++ framesL s.f.data s.n := by
  have h1 := h.rd
  rw [hl] at h1
  have h2 := rdM_pre l0 [s] fr (by rw [h1]) (by rw [h1])
  have h3 := rdM_app l0 [s] fr h2.1 h2.2
  have h4 := rdM_len l0 fr
  obtain ⟨r, hr⟩ : ∃ r, rdM fr l0 = r := ⟨_, rfl⟩
  rw [hr] at h2 h3 h4
  obtain ⟨rr, rn, rc, rt⟩ := r
  simp only at h2 h3 h4
  obtain ⟨rfl, rfl⟩ := h2
  subst h4
  rw [h1] at h3
  by_cases e1 : s.n = fr + rr.length
  · by_cases e2 : sumL (framesL s.f.data (fr + rr.length)) < s.f.data.size
    · rw [rdM_torn e1 e2] at h3; simp at h3
    · rw [rdM_on e1 e2] at h3
      simp [rdM] at h3
      have := sum_le s.f.data (fr + rr.length)
      exact ⟨rr, hr, e1, by rw [e1]; omega, by rw [e1]; exact h3.1⟩
  · rw [rdM_end e1] at h3; simp at h3
/-- all numbers lie ahead of the one to come, if the last file has something -/
theorem kk_ahead {fs : List F} {fr : Nat} {rs : List Rec} (h : KK fs fr rs) (hne : ∀ l0 s, filesM fs = l0 ++ [s] → s.f.data.size ≠ 0) : ∀ s ∈ filesM fs, s.n < fr + rs.length := by
  intro x hx
  rcases List.eq_nil_or_concat (filesM fs) with e | ⟨l0, s, e⟩
  · rw [e] at hx; cases hx
  · rw [List.concat_eq_append] at e
    obtain ⟨r0, h1, h2, h3, h4⟩ := kk_last h e
    have hz := hne l0 s e
    have hlen : 0 < (framesL s.f.data s.n).length := by
      rcases Nat.eq_zero_or_pos (framesL s.f.data s.n).length with q | q
      · rw [List.eq_nil_of_length_eq_zero q] at h3; simp [sumL] at h3; omega
      · exact q
    have hs : s.n < fr + rs.length := by rw [h4, List.length_append]; omega
    rw [e] at hx
    rcases List.mem_append.1 hx with q | q
    · have hu := filesM_up h.R
      rw [e, List.pairwise_append] at hu
      have := hu.2.2 x q s (by simp)
      omega
    · rw [List.mem_singleton] at q; subst q; exact hs
theorem okN_name (n : Nat) : okN (nameB n) := by unfold okN; rw [nameB_size]; exact ⟨by first | decide | (simp only [rmS]; decide), by first | decide | (simp only [rmS]; decide)⟩
theorem log_name {fs : List F} (hlg : ∀ f ∈ fs, numB f.name ≠ none) {f : F} (hf : f ∈ fs) : ∃ s ∈ filesM fs, s.f = f := by
  have hm := files_map fs hlg
  rw [← hm] at hf
  obtain ⟨s, hs, rfl⟩ := List.mem_map.1 hf
  exact ⟨s, hs, rfl⟩
theorem pos_end {fs : List F} {n : ByteArray} (h : ∀ f ∈ fs, lt f.name n = true) : pos fs n = fs.length :=
  pos_unique fs.length (Nat.le_refl _) (fun i f _ hf => h f (List.mem_of_getElem? hf)) (fun f hf => by simp at hf)
/-- a file for the number to come -/
theorem kk_new {fs : List F} {fr : Nat} {rs : List Rec} (h : KK fs fr rs) (hn : fr + rs.length < 4611686018427387904) (hne : ∀ l0 s, filesM fs = l0 ++ [s] → s.f.data.size ≠ 0) (z : Int) (d : ByteArray) :
    (ref fs ⟨1, nameB (fr + rs.length), d, z⟩ = if fs.length = 64 then 8 else 0) ∧ eff fs ⟨1, nameB (fr + rs.length), d, z⟩ = fs ++ [⟨nameB (fr + rs.length), ⟨#[]⟩, 0⟩] ∧
    (fs.length ≠ 64 → KK (fs ++ [⟨nameB (fr + rs.length), ⟨#[]⟩, 0⟩]) fr rs ∧ filesM (fs ++ [⟨nameB (fr + rs.length), ⟨#[]⟩, 0⟩]) = filesM fs ++ [⟨⟨nameB (fr + rs.length), ⟨#[]⟩, 0⟩, fr + rs.length, by omega⟩]) := by
  have ha := kk_ahead h hne
  have hlt : ∀ f ∈ fs, lt f.name (nameB (fr + rs.length)) = true := fun f hf => by
    obtain ⟨s, hs, rfl⟩ := log_name h.lg hf
    rw [(filesM_mem hs).2.1]
    exact nameB_lt (ha s hs) (by omega)
  have hp := pos_end hlt
  have hfn : found fs (nameB (fr + rs.length)) = none := by
    unfold found; rw [hp]; simp
  have heff : eff fs ⟨1, nameB (fr + rs.length), d, z⟩ = fs ++ [⟨nameB (fr + rs.length), ⟨#[]⟩, 0⟩] := by
    unfold eff
    rw [if_pos rfl]
    simp only [hp, List.take_length, List.drop_length]
  have hsf : sf1 ⟨nameB (fr + rs.length), ⟨#[]⟩, 0⟩ = [⟨⟨nameB (fr + rs.length), ⟨#[]⟩, 0⟩, fr + rs.length, by omega⟩] := sf1_some (numB_name (by omega))
  have hfm : filesM (fs ++ [⟨nameB (fr + rs.length), ⟨#[]⟩, 0⟩]) = filesM fs ++ [⟨⟨nameB (fr + rs.length), ⟨#[]⟩, 0⟩, fr + rs.length, by omega⟩] := by
    rw [filesM_app, filesM_cons, hsf]; rfl
  have href : ref fs ⟨1, nameB (fr + rs.length), d, z⟩ = if fs.length = 64 then 8 else 0 := by
    unfold ref
    rw [if_pos rfl, if_pos (okN_name _)]
    simp only [hfn]
    rfl
  refine ⟨href, heff, fun h64 => ⟨⟨?_, ?_, ?_, ?_, ?_⟩, hfm⟩⟩
  · rw [← heff]
    exact right_eff h.R ⟨by first | decide | (simp only [rmS]; decide), by first | decide | (simp only [rmS]; decide)⟩ (by rw [href, if_neg h64])
  · intro f hf
    rcases List.mem_append.1 hf with q | q
    · exact h.lg f q
    · rw [List.mem_singleton] at q; subst q; simp only; rw [numB_name (by omega)]; simp
  · intro f hf
    rcases List.mem_append.1 hf with q | q
    · exact h.sy f q
    · rw [List.mem_singleton] at q; subst q; rfl
  · rw [hfm, rdM_app _ _ _ (by rw [h.rd]) (by rw [h.rd]), h.rd]
    simp only
    rw [rdM_empty (by rfl) (by rfl)]
    simp
  · rw [hfm]
    cases hx : filesM fs with
    | nil =>
      have h1 := h.rd
      rw [hx] at h1
      have h2 : [] = rs := congrArg RD.rs h1
      show fr + rs.length = fr
      rw [← h2]; rfl
    | cons y t => have := h.fm; rw [hx] at this; exact this
/-- the frames of the last file, with a beginning of the next one behind them -/
theorem kk_more {fs : List F} {fr : Nat} {rs : List Rec} (h : KK fs fr rs) {l0 : List SF} {s : SF} (hl : filesM fs = l0 ++ [s]) (p : ByteArray) (f' : F) (hn : f'.name = s.f.name) (hd : f'.data = s.f.data ++ p) :
    rdM fr (l0 ++ [⟨f', s.n, s.hn⟩]) = if sumL (framesL p (fr + rs.length)) < p.size then ⟨rs ++ framesL p (fr + rs.length), fr + rs.length + (framesL p (fr + rs.length)).length, [⟨4, s.f.name, ⟨#[]⟩, (s.f.data.size + sumL (framesL p (fr + rs.length)) : Nat)⟩], []⟩
      else ⟨rs ++ framesL p (fr + rs.length), fr + rs.length + (framesL p (fr + rs.length)).length, [], []⟩ := by
  obtain ⟨r0, h1, h2, h3, h4⟩ := kk_last h hl
  have hnx : s.n + (framesL s.f.data s.n).length = fr + rs.length := by rw [h4, List.length_append]; omega
  have hfr : framesL f'.data s.n = framesL s.f.data s.n ++ framesL p (fr + rs.length) := by rw [hd, framesL_join h3, hnx]
  rw [rdM_app _ _ _ (by rw [h1]) (by rw [h1]), h1]
  simp only
  have hsum : sumL (framesL f'.data s.n) = s.f.data.size + sumL (framesL p (fr + rs.length)) := by rw [hfr, sumL_app, h3]
  have hsz : f'.data.size = s.f.data.size + p.size := by rw [hd, size_app]
  have hlen : (framesL f'.data s.n).length = (framesL s.f.data s.n).length + (framesL p (fr + rs.length)).length := by rw [hfr, List.length_append]
  have e2 : fr + r0.length = s.n := h2.symm
  rw [e2]
  by_cases c : sumL (framesL p (fr + rs.length)) < p.size
  · rw [if_pos c, rdM_torn (by rfl) (by show sumL (framesL f'.data s.n) < f'.data.size; rw [hsum, hsz]; omega)]
    simp only
    rw [hsum, hlen, hfr, hn, ← List.append_assoc, ← h4]
    congr 1
    omega
  · rw [if_neg c, rdM_on (by rfl) (by show ¬ sumL (framesL f'.data s.n) < f'.data.size; rw [hsum, hsz]; omega)]
    simp only [rdM]
    rw [hlen, hfr, List.append_nil, ← List.append_assoc, ← h4]
    congr 1
    omega
theorem right_last {fs0 : List F} {f f' : F} (h : Right (fs0 ++ [f])) (hn : f'.name = f.name) (ho : okF f') : Right (fs0 ++ [f']) := by
  have := right_set h (i := fs0.length) (f := f) (g := f') (by simp) hn ho
  simpa using this
theorem files_last {fs0 : List F} {l0 : List SF} {s : SF} {f' : F} (h0 : filesM fs0 = l0) (hs : sf1 s.f = [s]) (hn : f'.name = s.f.name) : filesM (fs0 ++ [f']) = l0 ++ [⟨f', s.n, s.hn⟩] := by
  rw [filesM_app, filesM_cons, sf1_name hn hs, h0]; rfl
/-- what may lie there when a frame was appended: its beginning is there behind a crash -/
theorem kk_torn {fs : List F} {fr : Nat} {rs : List Rec} (h : KK fs fr rs) {l0 : List SF} {s : SF} (hl : filesM fs = l0 ++ [s]) {fs0 : List F} (h0 : fs = fs0 ++ [s.f]) (hf0 : filesM fs0 = l0) (d : ByteArray) (hd : d.size ≤ 65536) (hn : fr + rs.length < 4611686018427387904)
    (hz : s.f.data.size + (16 + d.size) ≤ 262144) (k : Nat) (hk : k ≤ 16 + d.size) (f' : F) (hf' : f' = ⟨s.f.name, s.f.data ++ (frameB (fr + rs.length) d).extract 0 k, ((s.f.data.size + k : Nat) : Int)⟩) :
    Right (fs0 ++ [f']) ∧ fromM (filesM (fs0 ++ [f'])) = fr ∧
    ((k = 16 + d.size ∧ KK (fs0 ++ [f']) fr (rs ++ [⟨fr + rs.length, d, hn, hd⟩])) ∨
     (k = 0 ∧ fs0 ++ [f'] = fs) ∨
     (rdF (fs0 ++ [f']) = ⟨rs, fr + rs.length, [⟨4, s.f.name, ⟨#[]⟩, (s.f.data.size : Nat)⟩], []⟩ ∧ ref (fs0 ++ [f']) ⟨4, s.f.name, ⟨#[]⟩, (s.f.data.size : Nat)⟩ = 0 ∧ eff (fs0 ++ [f']) ⟨4, s.f.name, ⟨#[]⟩, (s.f.data.size : Nat)⟩ = fs)) := by
  subst hf'
  have hps : ((frameB (fr + rs.length) d).extract 0 k).size = k := by rw [ByteArray.size_extract, frameB_size]; omega
  have hm : s ∈ filesM fs := by rw [hl]; simp
  obtain ⟨hsf, hsn, hs1⟩ := filesM_mem hm
  have hok := h.R.ok _ hsf
  have hR : Right (fs0 ++ [⟨s.f.name, s.f.data ++ (frameB (fr + rs.length) d).extract 0 k, ((s.f.data.size + k : Nat) : Int)⟩]) := by
    refine right_last (f := s.f) (by rw [← h0]; exact h.R) rfl ⟨hok.1, ?_, ?_, ?_⟩
    · show (s.f.data ++ _).size ≤ _
      rw [size_app, hps]; omega
    · show (0 : Int) ≤ ((s.f.data.size + k : Nat) : Int)
      omega
    · show ((s.f.data.size + k : Nat) : Int) ≤ ((s.f.data ++ _).size : Int)
      rw [size_app, hps]; exact Int.le_refl _
  have hfm := files_last hf0 hs1 (f' := ⟨s.f.name, s.f.data ++ (frameB (fr + rs.length) d).extract 0 k, ((s.f.data.size + k : Nat) : Int)⟩) rfl
  have hfrom : fromM (filesM (fs0 ++ [⟨s.f.name, s.f.data ++ (frameB (fr + rs.length) d).extract 0 k, ((s.f.data.size + k : Nat) : Int)⟩])) = fr := by
    rw [hfm]
    have := h.fm
    rw [hl] at this
    cases l0 with
    | nil => exact this
    | cons y t => exact this
  have hmore := kk_more h hl ((frameB (fr + rs.length) d).extract 0 k) ⟨s.f.name, s.f.data ++ (frameB (fr + rs.length) d).extract 0 k, ((s.f.data.size + k : Nat) : Int)⟩ rfl rfl
  have hlg : ∀ f ∈ fs0 ++ [⟨s.f.name, s.f.data ++ (frameB (fr + rs.length) d).extract 0 k, ((s.f.data.size + k : Nat) : Int)⟩], numB f.name ≠ none := fun f hf => by
    rcases List.mem_append.1 hf with q | q
    · exact h.lg f (by rw [h0]; exact List.mem_append_left _ q)
    · rw [List.mem_singleton] at q; subst q; exact h.lg s.f hsf
  have hsy : ∀ f ∈ fs0 ++ [⟨s.f.name, s.f.data ++ (frameB (fr + rs.length) d).extract 0 k, ((s.f.data.size + k : Nat) : Int)⟩], f.syn = (f.data.size : Int) := fun f hf => by
    rcases List.mem_append.1 hf with q | q
    · exact h.sy f (by rw [h0]; exact List.mem_append_left _ q)
    · rw [List.mem_singleton] at q; subst q
      show ((s.f.data.size + k : Nat) : Int) = ((s.f.data ++ _).size : Int)
      rw [size_app, hps]
  refine ⟨hR, hfrom, ?_⟩
  by_cases c1 : k = 16 + d.size
  · refine .inl ⟨c1, hR, hlg, hsy, ?_, hfrom⟩
    rw [hfm, hmore]
    have e : framesL ((frameB (fr + rs.length) d).extract 0 k) (fr + rs.length) = [⟨fr + rs.length, d, hn, hd⟩] := by rw [c1, frame_whole, frames_frame hn hd]
    rw [e, hps, if_neg (by simp [sumL]; omega)]
    simp
    omega
  · by_cases c2 : k = 0
    · refine .inr (.inl ⟨c2, ?_⟩)
      rw [h0]
      congr 2
      have e : (frameB (fr + rs.length) d).extract 0 k = ⟨#[]⟩ := by
        apply bs_inj
        apply List.eq_nil_of_length_eq_zero
        rw [bs_len, hps, c2]
      have e2 : s.f.data ++ (⟨#[]⟩ : ByteArray) = s.f.data := by apply bs_inj; rw [bs_app]; simp
      rw [e, e2, c2, Nat.add_zero, ← h.sy _ hsf]
    · refine .inr (.inr ?_)
      have e : framesL ((frameB (fr + rs.length) d).extract 0 k) (fr + rs.length) = [] := frames_cut (by omega) hd
      have hrd : rdF (fs0 ++ [⟨s.f.name, s.f.data ++ (frameB (fr + rs.length) d).extract 0 k, ((s.f.data.size + k : Nat) : Int)⟩]) = ⟨rs, fr + rs.length, [⟨4, s.f.name, ⟨#[]⟩, (s.f.data.size : Nat)⟩], []⟩ := by
        unfold rdF
        rw [hfrom, hfm, hmore, e, hps, if_pos (by simp [sumL]; omega)]
        simp [sumL]
      obtain ⟨g1, g2⟩ := files_cut hR hfm s.f.data.size (by show _ ≤ (s.f.data ++ _).size; rw [size_app]; omega) ⟨#[]⟩
      refine ⟨hrd, g1, ?_⟩
      obtain ⟨q1, q2, q3, _, _⟩ := file_at hR hfm
      unfold eff
      rw [if_neg (by first | decide | (simp only [rmS]; decide))]
      simp only at q1 q2 q3 ⊢
      rw [q1]
      simp only
      rw [if_neg (by first | decide | (simp only [rmS]; decide)), if_neg (by first | decide | (simp only [rmS]; decide)), if_pos (by first | decide | (simp only [rmS]; decide))]
      have hpos : pos (fs0 ++ [⟨s.f.name, s.f.data ++ (frameB (fr + rs.length) d).extract 0 k, ((s.f.data.size + k : Nat) : Int)⟩]) s.f.name = fs0.length := by
        refine pos_unique fs0.length (by simp) (fun i f hi hf => ?_) (fun f hf => ?_)
        · exact hR.rise fs0.length i f ⟨s.f.name, s.f.data ++ (frameB (fr + rs.length) d).extract 0 k, ((s.f.data.size + k : Nat) : Int)⟩ hi hf (by simp)
        · simp at hf; subst hf; exact lt_irrefl _
      rw [hpos, h0]
      simp only [List.set_append_right _ _ (Nat.le_refl _), Nat.sub_self, List.set_cons_zero]
      congr 2
      have e3 : (s.f.data ++ (frameB (fr + rs.length) d).extract 0 k).extract 0 s.f.data.size = s.f.data := by
        rw [ext_app _ _ _ _ (Nat.le_refl _)]
        apply bs_inj; rw [bs_ext, List.drop_zero, List.take_of_length_le (by rw [bs_len]; exact Nat.le_refl _)]
      simp only [Int.toNat_natCast, e3]
      rw [← h.sy _ hsf]
end Go.Proofs.YtlgbehagflnfgaaGreatDoor

/- SEGMENT, MATHEMATICS: Open; an opening that is cut off; what a log holds behind an append and a crash. -/
namespace Go.Proofs.YtlgbehagflnfgaaGreatDoor
open Go.RowKit
set_option maxRecDepth 100000
set_option linter.unusedVariables false
set_option linter.unusedSimpArgs false

def zl : L := ⟨⟨[], false, 0, 0⟩, 0, 0, 0, false⟩
open Classical in
/-- what Open answers -/
noncomputable def openM (d : D) (size : Int) : L × List Rec × Int :=
  if ¬ Right d.files then (zl, [], 6) else if ¬ (1 ≤ size ∧ size ≤ 262144) then (zl, [], 2) else if d.down = true then (zl, [], 17)
  else if (doS ⟨d, size, 0, 0, false⟩ (mendM d.files)).2 = 0 then ({ (doS ⟨d, size, 0, 0, false⟩ (mendM d.files)).1 with fr := (fromM (filesM d.files) : Int), nx := ((rdF d.files).nx : Int) }, (rdF d.files).rs, 0)
  else ((doS ⟨d, size, 0, 0, false⟩ (mendM d.files)).1, [], (doS ⟨d, size, 0, 0, false⟩ (mendM d.files)).2)
/-- the files when all is mended -/
noncomputable def mended (fs : List F) : List F := (mendM fs).foldl eff fs
def Syn (fs : List F) : Prop := ∀ f ∈ fs, f.syn = (f.data.size : Int)
theorem syn_eff {fs : List F} {m : S} (h : Syn fs) (hk : m.kind = 4 ∨ m.kind = 5) (h0 : ref fs m = 0) : Syn (eff fs m) := by
  have hk1 : ¬ m.kind = 1 := by omega
  have hk2 : ¬ m.kind = 2 := by omega
  have hk3 : ¬ m.kind = 3 := by omega
  unfold ref at h0
  unfold eff
  rw [if_neg hk1] at h0 ⊢
  cases hf : found fs m.name with
  | none => exact h
  | some f =>
    rw [hf] at h0
    simp only at h0 ⊢
    rw [if_neg hk2] at h0 ⊢
    rw [if_neg hk3]
    rcases hk with hk | hk
    · rw [if_pos hk] at h0 ⊢
      split at h0
      · cases h0
      · rename_i hz
        intro g hg
        rcases List.mem_or_eq_of_mem_set hg with q | q
        · exact h g q
        · subst q
          show m.size = ((f.data.extract 0 m.size.toNat).size : Int)
          rw [ByteArray.size_extract]
          omega
    · rw [if_neg (by omega)]
      intro g hg
      exact h g ((rem_sub fs _).subset hg)
/-- how a mend goes: what is left to be mended lies there then -/
theorem doo_mend {d : D} {m : S} (hR : Right d.files) (hd : d.down = false) (hk : m.kind = 4 ∨ m.kind = 5) (h0 : ref d.files m = 0) :
    (d.fault = 0 ∧ doo d m = (⟨d.files, false, d.fuse, -1⟩, 18)) ∨ (d.fault ≠ 0 ∧ d.fuse = 0 ∧ doo d m = (⟨d.files, true, 0, dec d.fault⟩, 17)) ∨ (d.fault ≠ 0 ∧ d.fuse ≠ 0 ∧ doo d m = (⟨eff d.files m, false, dec d.fuse, dec d.fault⟩, 0)) := by
  have e : doo d m = run d m := doo_right hR (by omega)
  rw [e]
  unfold run
  rw [if_neg (by rw [hd]; decide), if_neg (by rw [h0]; decide)]
  by_cases c1 : d.fault = 0
  · rw [if_pos c1, hd]; exact .inl ⟨c1, rfl⟩
  · rw [if_neg c1]
    by_cases c2 : d.fuse = 0
    · rw [if_pos c2]
      refine .inr (.inl ⟨c1, c2, ?_⟩)
      unfold half
      rw [if_neg (by omega)]
    · rw [if_neg c2]; exact .inr (.inr ⟨c1, c2, rfl⟩)
/-- what holds of a log whose mends went so far -/
structure Mend (l : L) (fs : List F) (r : L × Int) : Prop where
  R : Right r.1.d.files
  md : mended r.1.d.files = mended fs
  rs : (rdF r.1.d.files).rs = (rdF fs).rs
  nx : (rdF r.1.d.files).nx = (rdF fs).nx
  fm : fromM (filesM r.1.d.files) = fromM (filesM fs)
  sz : r.1.size = l.size
  fr : r.1.fr = l.fr
  nx2 : r.1.nx = l.nx
  ok : r.2 = 0 → mendM r.1.d.files = [] ∧ r.1.d.down = false ∧ r.1.broken = l.broken ∧ r.1.d.files = mended fs
  free : l.d.fault = -1 → r.1.d.fault = -1 ∧ (r.2 = 0 ∨ r.2 = 17) ∧ (l.d.fuse = -1 → r.2 = 0 ∧ r.1.d.fuse = -1)
  syn : Syn fs → Syn r.1.d.files
  nu : Num l.d.fuse → Num l.d.fault → Num r.1.d.fuse ∧ Num r.1.d.fault
theorem mend_run : ∀ (ms : List S) (l : L), Right l.d.files → l.d.down = false → mendM l.d.files = ms → Mend l l.d.files (doS l ms)
  | [], l, hR, hd, hm => by
    refine ⟨hR, rfl, rfl, rfl, rfl, rfl, rfl, rfl, fun _ => ⟨hm, hd, rfl, ?_⟩, fun hf => ⟨hf, .inl rfl, fun hu => ⟨rfl, hu⟩⟩, fun h => h, fun a b => ⟨a, b⟩⟩
    show l.d.files = mended l.d.files
    unfold mended; rw [hm]; rfl
  | m :: ms, l, hR, hd, hm => by
    obtain ⟨g1, g2, g3, g4, g5, g6, g7, g8, g9, g10⟩ := mend_one hR hm
    have hmd : mended (eff l.d.files m) = mended l.d.files := by unfold mended; rw [g4, hm]; rfl
    rcases doo_mend hR hd g10 g2 with ⟨c1, e⟩ | ⟨c1, c2, e⟩ | ⟨c1, c2, e⟩
    · unfold doS
      rw [e, if_neg (by first | decide | (simp only [rmS]; decide))]
      exact ⟨hR, rfl, rfl, rfl, rfl, rfl, rfl, rfl, (fun h => by cases h), (fun h => by omega), fun h => h, fun a b => ⟨a, by show Num (-1); unfold Num; omega⟩⟩
    · unfold doS
      rw [e, if_neg (by first | decide | (simp only [rmS]; decide))]
      refine ⟨hR, rfl, rfl, rfl, rfl, rfl, rfl, rfl, fun h => (by cases h), fun h => ⟨by show dec l.d.fault = -1; rw [h]; rfl, .inr rfl, fun h2 => by omega⟩, fun h => h, fun a b => ⟨by show Num 0; unfold Num; omega, num_dec b⟩⟩
    · unfold doS
      rw [e, if_pos rfl]
      have ih := mend_run ms { l with d := ⟨eff l.d.files m, false, dec l.d.fuse, dec l.d.fault⟩ } g3 rfl g4
      obtain ⟨i1, i2, i3, i4, i5, i6, i7, i8, i9, i10, i11, i12⟩ := ih
      refine ⟨i1, i2.trans hmd, i3.trans g5, i4.trans g6, i5.trans g7, i6, i7, i8, fun h => ?_, fun h => ?_, fun h => i11 (syn_eff h g10 g2), fun a b => i12 (num_dec a) (num_dec b)⟩
      · obtain ⟨a, b, c, d⟩ := i9 h
        exact ⟨a, b, c, d.trans hmd⟩
      · obtain ⟨a, b, c⟩ := i10 (by show dec l.d.fault = -1; rw [h]; rfl)
        exact ⟨a, b, fun hu => c (by show dec l.d.fuse = -1; rw [hu]; rfl)⟩
theorem rd_mended {fs : List F} (h : mendM fs = []) : (rdF fs).cut = [] ∧ (rdF fs).rest = [] := by
  unfold mendM at h
  have h1 := List.append_eq_nil_iff.1 h
  exact ⟨h1.2, by simpa using h1.1⟩
/-- an opening that is OK -/
theorem open_ok {d : D} {size : Int} (hR : Right d.files) (hs : 1 ≤ size ∧ size ≤ 262144) (hd : d.down = false) :
    ∃ r, doS ⟨d, size, 0, 0, false⟩ (mendM d.files) = r ∧ Mend ⟨d, size, 0, 0, false⟩ d.files r ∧ openM d size = (if r.2 = 0 then ({ r.1 with fr := (fromM (filesM d.files) : Int), nx := ((rdF d.files).nx : Int) }, (rdF d.files).rs, 0) else (r.1, [], r.2)) := by
  refine ⟨_, rfl, mend_run _ ⟨d, size, 0, 0, false⟩ hR hd rfl, ?_⟩
  unfold openM
  rw [if_neg (fun h => h hR), if_neg (fun h => h hs), if_neg (by rw [hd]; decide)]
/-- an opening of a disk that never fails -/
theorem open_free {fs : List F} {size : Int} (hR : Right fs) (hs : 1 ≤ size ∧ size ≤ 262144) :
    openM ⟨fs, false, -1, -1⟩ size = (⟨⟨mended fs, false, -1, -1⟩, size, fromM (filesM fs), (rdF fs).nx, false⟩, (rdF fs).rs, 0) ∧ Right (mended fs) ∧ mendM (mended fs) = [] ∧ (rdF (mended fs)).rs = (rdF fs).rs ∧ (rdF (mended fs)).nx = (rdF fs).nx ∧ fromM (filesM (mended fs)) = fromM (filesM fs) := by
  obtain ⟨r, hr, hM, ho⟩ := open_ok (d := ⟨fs, false, -1, -1⟩) hR hs rfl
  obtain ⟨f1, _, f2⟩ := hM.free rfl
  obtain ⟨f3, f4⟩ := f2 rfl
  obtain ⟨k1, k2, k3, k4⟩ := hM.ok f3
  rw [ho, if_pos f3]
  obtain ⟨⟨⟨gs, dn, fu, fa⟩, sz, fr, nx, br⟩, c⟩ := r
  simp only at f1 f3 f4 k1 k2 k3 k4
  have h1 := hM.R
  have h2 := hM.rs
  have h3 := hM.nx
  have h4 := hM.fm
  have h5 := hM.sz
  simp only at h1 h2 h3 h4 h5
  subst f1 f3 f4 k2 k3 k4 h5
  exact ⟨rfl, h1, k1, h2, h3, h4⟩
theorem open_kk {fs : List F} {rs : List Rec} {size : Int} (h : KK fs 1 rs) (hs : 1 ≤ size ∧ size ≤ 262144) : openM ⟨fs, false, -1, -1⟩ size = (⟨⟨fs, false, -1, -1⟩, size, 1, ((1 + rs.length : Nat) : Int), false⟩, rs, 0) := by
  have h1 := (open_free h.R hs).1
  have h2 : mended fs = fs := by unfold mended; rw [kk_mend h]; rfl
  rw [h2, kk_rdF h, h.fm] at h1
  exact h1
/-- the log that goes on -/
abbrev kl (fs : List F) (rs : List Rec) (fuse fault size : Int) : L := ⟨⟨fs, false, fuse, fault⟩, size, 1, ((1 + rs.length : Nat) : Int), false⟩
/-- what an append leaves, for a crash -/
def Aft (fs : List F) (rs : List Rec) (d : ByteArray) (gs : List F) (c : Int) : Prop :=
  (c ≠ 0 ∧ KK gs 1 rs) ∨
  (∃ (fs1 : List F) (fs0 : List F) (l0 : List SF) (s : SF) (syn : Nat), KK fs1 1 rs ∧ filesM fs1 = l0 ++ [s] ∧ fs1 = fs0 ++ [s.f] ∧ filesM fs0 = l0 ∧ d.size ≤ 65536 ∧ 1 + rs.length < 4611686018427387904 ∧ s.f.data.size + (16 + d.size) ≤ 262144 ∧
    gs = fs0 ++ [⟨s.f.name, s.f.data ++ frameB (1 + rs.length) d, (syn : Int)⟩] ∧ ((c ≠ 0 ∧ syn = s.f.data.size) ∨ (c = 0 ∧ syn = s.f.data.size + (16 + d.size))))
theorem crashL_snoc : ∀ (ks : List Int) (fs : List F) (f : F), ∃ kp, crashL ks (fs ++ [f]) = crashL ks fs ++ [crash1 kp f] := by
  intro ks fs f
  refine ⟨ks[fs.length]?, ?_⟩
  apply List.ext_getElem?
  intro i
  rcases Nat.lt_trichotomy i fs.length with h | h | h
  · have h1 : (fs ++ [f])[i]? = some (fs[i]) := by rw [List.getElem?_append_left h]; simp [h]
    rw [crashL_at ks _ i _ h1, List.getElem?_append_left (by rw [crashL_len]; exact h), crashL_at ks fs i fs[i] (by simp [h])]
  · subst h
    rw [crashL_at ks _ fs.length f (by simp), List.getElem?_append_right (by rw [crashL_len]; exact Nat.le_refl _), crashL_len]
    simp
  · have h1 : (crashL ks (fs ++ [f])).length = fs.length + 1 := by rw [crashL_len]; simp
    have h2 : (crashL ks fs ++ [crash1 ks[fs.length]? f]).length = fs.length + 1 := by simp [crashL_len]
    rw [List.getElem?_eq_none_iff.2 (by omega), List.getElem?_eq_none_iff.2 (by omega)]
/-- whatever a crash leaves, it is opened as the log, with the record or without -/
theorem aft_open {fs : List F} {rs : List Rec} {d : ByteArray} {gs : List F} {c : Int} (h : Aft fs rs d gs c) (ks : List Int) {size : Int} (hs : 1 ≤ size ∧ size ≤ 262144) :
    ∃ fs2 rs2, KK fs2 1 rs2 ∧ openM ⟨crashL ks gs, false, -1, -1⟩ size = (kl fs2 rs2 (-1) (-1) size, rs2, 0) ∧ ((c ≠ 0 ∧ rs2 = rs) ∨ ∃ h1 h2, rs2 = rs ++ [⟨1 + rs.length, d, h1, h2⟩]) := by
  rcases h with ⟨hc, hk⟩ | ⟨fs1, fs0, l0, s, syn, hk, hl, h0, hf0, hd, hn, hz, rfl, hcs⟩
  · rw [kk_crash hk]
    exact ⟨gs, rs, hk, open_kk hk hs, .inl ⟨hc, rfl⟩⟩
  · have hsyn0 : ∀ f ∈ fs0, f.syn = (f.data.size : Int) := fun f hf => hk.sy f (by rw [h0]; exact List.mem_append_left _ hf)
    have hR0 : Right fs0 := by
      have h1 := right_rem hk.R fs0.length
      rw [h0] at h1
      simpa using h1
    obtain ⟨kp, hcr⟩ := crashL_snoc ks fs0 ⟨s.f.name, s.f.data ++ frameB (1 + rs.length) d, (syn : Int)⟩
    rw [hcr, crash_synced hR0 hsyn0]
    have hsz : (s.f.data ++ frameB (1 + rs.length) d).size = s.f.data.size + (16 + d.size) := by rw [size_app, frameB_size]
    have hok := hk.R.ok s.f (by rw [h0]; simp)
    have hkb := keptS_bd (f := ⟨s.f.name, s.f.data ++ frameB (1 + rs.length) d, (syn : Int)⟩) ⟨hok.1, by show (s.f.data ++ _).size ≤ _; rw [hsz]; omega, by show (0 : Int) ≤ (syn : Int); omega, by show (syn : Int) ≤ ((s.f.data ++ _).size : Int); rw [hsz]; omega⟩ kp
    obtain ⟨k, hk1⟩ : ∃ k : Nat, keptS kp ⟨s.f.name, s.f.data ++ frameB (1 + rs.length) d, (syn : Int)⟩ = ((s.f.data.size + k : Nat) : Int) := by
      simp only [hsz] at hkb
      refine ⟨(keptS kp ⟨s.f.name, s.f.data ++ frameB (1 + rs.length) d, (syn : Int)⟩).toNat - s.f.data.size, ?_⟩
      omega
    have hkb2 : syn ≤ s.f.data.size + k ∧ k ≤ 16 + d.size := by
      rw [hk1] at hkb
      simp only [hsz] at hkb
      omega
    have hcr1 : crash1 kp ⟨s.f.name, s.f.data ++ frameB (1 + rs.length) d, (syn : Int)⟩ = ⟨s.f.name, s.f.data ++ (frameB (1 + rs.length) d).extract 0 k, ((s.f.data.size + k : Nat) : Int)⟩ := by
      unfold crash1
      rw [hk1]
      simp only [Int.toNat_natCast]
      congr 1
      apply bs_inj
      rw [bs_ext, bs_app, bs_app, bs_ext, List.drop_zero, List.drop_zero, ← bs_len, List.take_length_add_append]
    rw [hcr1]
    obtain ⟨hRt, hfr, h3⟩ := kk_torn hk hl h0 hf0 d hd hn hz k hkb2.2 _ rfl
    rcases h3 with ⟨e1, hK⟩ | ⟨e1, e2⟩ | ⟨e1, e2, e3⟩
    · exact ⟨_, _, hK, by have := open_kk hK hs; exact this, .inr ⟨hn, hd, rfl⟩⟩
    · rw [e2]
      refine ⟨fs1, rs, hk, open_kk hk hs, .inl ⟨?_, rfl⟩⟩
      rcases hcs with ⟨a, _⟩ | ⟨a, b⟩
      · exact a
      · omega
    · obtain ⟨o1, _⟩ := open_free hRt hs
      have hmd : mendM (fs0 ++ [⟨s.f.name, s.f.data ++ (frameB (1 + rs.length) d).extract 0 k, ((s.f.data.size + k : Nat) : Int)⟩]) = [⟨4, s.f.name, ⟨#[]⟩, (s.f.data.size : Nat)⟩] := by unfold mendM; rw [e1]; rfl
      have hme : mended (fs0 ++ [⟨s.f.name, s.f.data ++ (frameB (1 + rs.length) d).extract 0 k, ((s.f.data.size + k : Nat) : Int)⟩]) = fs1 := by unfold mended; rw [hmd]; exact e3
      rw [hme, e1, hfr] at o1
      refine ⟨fs1, rs, hk, o1, .inl ⟨?_, rfl⟩⟩
      rcases hcs with ⟨a, _⟩ | ⟨a, b⟩
      · exact a
      · intro _
        have hks : k = 16 + d.size := by omega
        have hfull : framesL ((frameB (1 + rs.length) d).extract 0 k) (1 + rs.length) = [⟨1 + rs.length, d, hn, hd⟩] := by rw [hks, frame_whole, frames_frame hn hd]
        have hmore := kk_more hk hl ((frameB (1 + rs.length) d).extract 0 k) ⟨s.f.name, s.f.data ++ (frameB (1 + rs.length) d).extract 0 k, ((s.f.data.size + k : Nat) : Int)⟩ rfl rfl
        have hm : s ∈ filesM fs1 := by rw [hl]; simp
        have hfm := files_last hf0 (filesM_mem hm).2.2 (f' := ⟨s.f.name, s.f.data ++ (frameB (1 + rs.length) d).extract 0 k, ((s.f.data.size + k : Nat) : Int)⟩) rfl
        unfold rdF at e1
        rw [hfr, hfm, hmore, hfull, ByteArray.size_extract, frameB_size, if_neg (by simp [sumL]; omega)] at e1
        simp at e1
end Go.Proofs.YtlgbehagflnfgaaGreatDoor

/- SEGMENT: THE WALKS OVER Append's and Drop's closures. -/
namespace Go.Proofs.YtlgbehagflnfgaaGreatDoor
open Go.RowKit
set_option maxRecDepth 100000
set_option linter.unusedVariables false
set_option linter.unusedSimpArgs false
noncomputable def appM (l : L) (data : ByteArray) : L × Int := if 65536 < data.size then (l, 4) else if l.nx = 4611686018427387904 then (l, 2) else addM l data
noncomputable def cutM (l : L) (q : Int) : L × Int := if l.nx < q then (l, 2) else dropM l q

set_option maxHeartbeats 4000000 in
theorem append1_any (w : World) (g bx : Nat) (ad : Option Addr) (n cap : Nat) (l : L) (data : ByteArray) (h : LAt w g ad n cap l) (hR : Right l.d.files) (hT : Tabs w) (hg3 : 3 < g) (hds : data.size ≤ 9223372036854775807) (hn0 : 0 ≤ l.nx) (hn1 : l.nx ≤ 4611686018427387904)
    (hb : w.cell? ⟨bx, 0, none⟩ = some (.string data)) :
    Calls Tryz.prog 121 #[.pointer (some ⟨g, 0, none⟩), .pointer (some ⟨bx, 0, none⟩)] w fun e w' => ∃ ad2 n2 cap2, e = .returned (.int .i64 (appM l data).2) ∧ LAt w' g ad2 n2 cap2 (appM l data).1 ∧ w.grownBy w' (some g) ∧
      ∀ b, (Value.slice ad2 n2 cap2).ownBlock = some b → (Value.slice ad n cap).ownBlock = some b ∨ w.heap.size ≤ b := by
  have HL := Lib.hid h
  have HR := Lib.hid hR
  have HT := Lib.hid hT
  clear hR hT
  obtain ⟨⟨fs, down, fuse, fault⟩, size, fr, nx, broken⟩ := l
  simp only at hn0 hn1
  obtain ⟨d0, d1, d2, d3, d4, d5, d6, d7⟩ := box8 h.h
  have hlg := (Array.getElem?_eq_some_iff.1 h.h).1
  clear h
  go_enter Tryz.func121, Tryz.ntmps121
  by_cases h1 : 65536 < data.size
  · have h1I : (65536 : Int) < (data.size : Int) := by omega
    have hA : appM ⟨⟨fs, down, fuse, fault⟩, size, fr, nx, broken⟩ data = (⟨⟨fs, down, fuse, fault⟩, size, fr, nx, broken⟩, 4) := if_pos h1
    have HA := Lib.hid hA
    clear hA
    go_wp2
    exact bodyPost_ret (v := .int .i64 4) (by simp [results, Tryz.results121, go_sem]) rfl ⟨by rw [HA.out], ad, n, cap, by rw [HA.out]; exact HL.out, kd_refl g w, fun b hb => .inl hb⟩
  · have h1I : ¬ (65536 : Int) < (data.size : Int) := by omega
    by_cases h2 : nx = 4611686018427387904
    · have hA : appM ⟨⟨fs, down, fuse, fault⟩, size, fr, nx, broken⟩ data = (⟨⟨fs, down, fuse, fault⟩, size, fr, nx, broken⟩, 2) := by
        unfold appM
        rw [if_neg h1]
        exact if_pos h2
      have HA := Lib.hid hA
      clear hA
      subst h2
      go_wp2
      exact bodyPost_ret (v := .int .i64 2) (by simp [results, Tryz.results121, go_sem]) rfl ⟨by rw [HA.out], ad, n, cap, by rw [HA.out]; exact HL.out, kd_refl g w, fun b hb => .inl hb⟩
    · have hA : appM ⟨⟨fs, down, fuse, fault⟩, size, fr, nx, broken⟩ data = addM ⟨⟨fs, down, fuse, fault⟩, size, fr, nx, broken⟩ data := by
        unfold appM
        rw [if_neg h1]
        exact if_neg h2
      have HA := Lib.hid hA
      have h2e : (nx == 4611686018427387904) = false := by simp [h2]
      clear hA
      go_wp2_with fail
      refine (ladd_any w g ad n cap _ data HL.out HR.out HT.out hg3 (by omega) hn0 (by show nx < _; omega)).mono ?_
      rintro e w2 ⟨ad2, n2, cap2, rfl, hL, hg, ho⟩
      rw [← HA.out] at hL ⊢
      have HL2 := Lib.hid hL
      have Hg := Lib.hid hg
      have Ho := Lib.hid ho
      clear hL hg ho d0 d1 d2 d3 d4 d5 d6 d7
      go_wp2
      exact bodyPost_ret (v := .int .i64 (appM ⟨⟨fs, down, fuse, fault⟩, size, fr, nx, broken⟩ data).2) (by simp [results, Tryz.results121, go_sem]) rfl ⟨ad2, n2, cap2, rfl, HL2.out, Hg.out, Ho.out⟩

set_option maxHeartbeats 4000000 in
theorem drop1_any (w : World) (g bx : Nat) (ad : Option Addr) (n cap : Nat) (l : L) (q : Int) (h : LAt w g ad n cap l) (hR : Right l.d.files) (hT : Tabs w) (hg3 : 3 < g) (hq0 : 0 ≤ q) (hq1 : q ≤ 18446744073709551615)
    (hb : w.cell? ⟨bx, 0, none⟩ = some (.int .u64 q)) :
    Calls Tryz.prog 123 #[.pointer (some ⟨g, 0, none⟩), .pointer (some ⟨bx, 0, none⟩)] w fun e w' => ∃ ad2 n2 cap2, e = .returned (.int .i64 (cutM l q).2) ∧ LAt w' g ad2 n2 cap2 (cutM l q).1 ∧ w.grownBy w' (some g) ∧
      ∀ b, (Value.slice ad2 n2 cap2).ownBlock = some b → (Value.slice ad n cap).ownBlock = some b ∨ w.heap.size ≤ b := by
  have HL := Lib.hid h
  have HR := Lib.hid hR
  have HT := Lib.hid hT
  clear hR hT
  obtain ⟨⟨fs, down, fuse, fault⟩, size, fr, nx, broken⟩ := l
  obtain ⟨d0, d1, d2, d3, d4, d5, d6, d7⟩ := box8 h.h
  have hlg := (Array.getElem?_eq_some_iff.1 h.h).1
  clear h
  go_enter Tryz.func123, Tryz.ntmps123
  by_cases h1 : nx < q
  · have hA : cutM ⟨⟨fs, down, fuse, fault⟩, size, fr, nx, broken⟩ q = (⟨⟨fs, down, fuse, fault⟩, size, fr, nx, broken⟩, 2) := if_pos h1
    have HA := Lib.hid hA
    clear hA
    go_upto_region 1 with (fail)
    go_quiet (fail)
    go_wp2
    exact bodyPost_ret (v := .int .i64 2) (by simp [results, Tryz.results123, go_sem]) rfl ⟨by rw [HA.out], ad, n, cap, by rw [HA.out]; exact HL.out.under (below_drewN (Below.refl _ w) _), kd_below (kd_refl g w) (below_drewN (Below.refl _ w) _), fun b hb => .inl hb⟩
  · have hA : cutM ⟨⟨fs, down, fuse, fault⟩, size, fr, nx, broken⟩ q = dropM ⟨⟨fs, down, fuse, fault⟩, size, fr, nx, broken⟩ q := if_neg h1
    have HA := Lib.hid hA
    clear hA
    go_upto_region 1 with (fail)
    go_quiet (fail)
    go_wp2_with fail
    refine (ldrop_any _ g ad n cap _ q (HL.out.under (below_drewN (Below.refl _ w) _)) HR.out (HT.out.under (below_drewN (Below.refl _ w) _)) hg3 hq0 hq1).mono ?_
    rintro e w2 ⟨ad2, n2, cap2, rfl, hL, hg, ho⟩
    replace hg := World.grownBy.trans (kd_below (kd_refl g w) (below_drewN (Below.refl _ w) _)) hg
    replace ho : ∀ b, (Value.slice ad2 n2 cap2).ownBlock = some b → (Value.slice ad n cap).ownBlock = some b ∨ w.heap.size ≤ b := fun b hb => (ho b hb).imp id (fun h => Nat.le_trans (below_drewN (Below.refl 0 w) _).size h)
    rw [← HA.out] at hL ⊢
    have HL2 := Lib.hid hL
    have Hg := Lib.hid hg
    have Ho := Lib.hid ho
    clear hL hg ho d0 d1 d2 d3 d4 d5 d6 d7
    go_wp2
    exact bodyPost_ret (v := .int .i64 (cutM ⟨⟨fs, down, fuse, fault⟩, size, fr, nx, broken⟩ q).2) (by simp [results, Tryz.results123, go_sem]) rfl ⟨ad2, n2, cap2, rfl, HL2.out, Hg.out, Ho.out⟩
end Go.Proofs.YtlgbehagflnfgaaGreatDoor

/- SEGMENT: THE WALK OVER change. -/
namespace Go.Proofs.YtlgbehagflnfgaaGreatDoor
open Go.RowKit
set_option maxRecDepth 100000
set_option linter.unusedVariables false
set_option linter.unusedSimpArgs false
/-- what change does -/
noncomputable def chM (f : L → L × Int) (l : L) : L × Int := if l.broken = true then (l, 6) else f l
abbrev zlog : Array Value := lcells (.slice none 0 0) false 0 0 0 0 0 false
/-- what change answers with -/
def ChP (w : World) (l : L) (f : L → L × Int) (e : Ending) (w' : World) : Prop := Below w.heap.size w w' ∧
  ((¬ LRight l ∧ e = .returned (.tuple #[.agg zlog, .int .i64 6])) ∨
   (LRight l ∧ ∃ ad2 n2 cap2, e = .returned (.tuple #[.agg ((chM f l).1.cells (.slice ad2 n2 cap2)), .int .i64 (chM f l).2]) ∧ DIn w' ad2 n2 cap2 (chM f l).1.d.fuse (chM f l).1.d.fault (chM f l).1.d.files ∧ (∀ b, (Value.slice ad2 n2 cap2).ownBlock = some b → w.heap.size ≤ b ∧ Free w' b)))

theorem cell_put8 {w : World} {g : Nat} {x0 x1 x2 x3 x4 x5 x6 x7 : Value} {t : TypeId} (h : w.heap[g]? = some (.cells #[x0, x1, x2, x3, x4, x5, x6, x7] t (0, 0))) (v0 v1 v2 v3 v4 v5 v6 v7 : Value) :
    let W := (((((((w.setCell ⟨g, 0, none⟩ v0).setCell ⟨g, 1, none⟩ v1).setCell ⟨g, 2, none⟩ v2).setCell ⟨g, 3, none⟩ v3).setCell ⟨g, 4, none⟩ v4).setCell ⟨g, 5, none⟩ v5).setCell ⟨g, 6, none⟩ v6).setCell ⟨g, 7, none⟩ v7
    W.cell? ⟨g, 0, none⟩ = some v0 ∧ W.cell? ⟨g, 1, none⟩ = some v1 ∧ W.cell? ⟨g, 2, none⟩ = some v2 ∧ W.cell? ⟨g, 3, none⟩ = some v3 ∧ W.cell? ⟨g, 4, none⟩ = some v4 ∧ W.cell? ⟨g, 5, none⟩ = some v5 ∧ W.cell? ⟨g, 6, none⟩ = some v6 ∧ W.cell? ⟨g, 7, none⟩ = some v7 := by
  intro W
  have h0 : (w.setCell ⟨g, 0, none⟩ v0).heap[g]? = some (.cells #[v0, x1, x2, x3, x4, x5, x6, x7] t (0, 0)) := heap_setCell_same _ g 0 _ t _ h
  have h1 : ((w.setCell ⟨g, 0, none⟩ v0).setCell ⟨g, 1, none⟩ v1).heap[g]? = some (.cells #[v0, v1, x2, x3, x4, x5, x6, x7] t (0, 0)) := heap_setCell_same _ g 1 _ t _ h0
  have h2 : (((w.setCell ⟨g, 0, none⟩ v0).setCell ⟨g, 1, none⟩ v1).setCell ⟨g, 2, none⟩ v2).heap[g]? = some (.cells #[v0, v1, v2, x3, x4, x5, x6, x7] t (0, 0)) := heap_setCell_same _ g 2 _ t _ h1
  have h3 : ((((w.setCell ⟨g, 0, none⟩ v0).setCell ⟨g, 1, none⟩ v1).setCell ⟨g, 2, none⟩ v2).setCell ⟨g, 3, none⟩ v3).heap[g]? = some (.cells #[v0, v1, v2, v3, x4, x5, x6, x7] t (0, 0)) := heap_setCell_same _ g 3 _ t _ h2
  have h4 : (((((w.setCell ⟨g, 0, none⟩ v0).setCell ⟨g, 1, none⟩ v1).setCell ⟨g, 2, none⟩ v2).setCell ⟨g, 3, none⟩ v3).setCell ⟨g, 4, none⟩ v4).heap[g]? = some (.cells #[v0, v1, v2, v3, v4, x5, x6, x7] t (0, 0)) := heap_setCell_same _ g 4 _ t _ h3
  have h5 : ((((((w.setCell ⟨g, 0, none⟩ v0).setCell ⟨g, 1, none⟩ v1).setCell ⟨g, 2, none⟩ v2).setCell ⟨g, 3, none⟩ v3).setCell ⟨g, 4, none⟩ v4).setCell ⟨g, 5, none⟩ v5).heap[g]? = some (.cells #[v0, v1, v2, v3, v4, v5, x6, x7] t (0, 0)) := heap_setCell_same _ g 5 _ t _ h4
  have h6 : (((((((w.setCell ⟨g, 0, none⟩ v0).setCell ⟨g, 1, none⟩ v1).setCell ⟨g, 2, none⟩ v2).setCell ⟨g, 3, none⟩ v3).setCell ⟨g, 4, none⟩ v4).setCell ⟨g, 5, none⟩ v5).setCell ⟨g, 6, none⟩ v6).heap[g]? = some (.cells #[v0, v1, v2, v3, v4, v5, v6, x7] t (0, 0)) := heap_setCell_same _ g 6 _ t _ h5
  have h7 : ((((((((w.setCell ⟨g, 0, none⟩ v0).setCell ⟨g, 1, none⟩ v1).setCell ⟨g, 2, none⟩ v2).setCell ⟨g, 3, none⟩ v3).setCell ⟨g, 4, none⟩ v4).setCell ⟨g, 5, none⟩ v5).setCell ⟨g, 6, none⟩ v6).setCell ⟨g, 7, none⟩ v7).heap[g]? = some (.cells #[v0, v1, v2, v3, v4, v5, v6, v7] t (0, 0)) := heap_setCell_same _ g 7 _ t _ h6
  exact box8 h7
theorem below_put8 {B : Nat} {w0 w : World} {g : Nat} (h : Below B w0 w) (hg : B ≤ g) (v0 v1 v2 v3 v4 v5 v6 v7 : Value) :
    Below B w0 ((((((((w.setCell ⟨g, 0, none⟩ v0).setCell ⟨g, 1, none⟩ v1).setCell ⟨g, 2, none⟩ v2).setCell ⟨g, 3, none⟩ v3).setCell ⟨g, 4, none⟩ v4).setCell ⟨g, 5, none⟩ v5).setCell ⟨g, 6, none⟩ v6).setCell ⟨g, 7, none⟩ v7) :=
  (((((((h.setCell (p := ⟨g, 0, none⟩) hg v0).setCell (p := ⟨g, 1, none⟩) hg v1).setCell (p := ⟨g, 2, none⟩) hg v2).setCell (p := ⟨g, 3, none⟩) hg v3).setCell (p := ⟨g, 4, none⟩) hg v4).setCell (p := ⟨g, 5, none⟩) hg v5).setCell (p := ⟨g, 6, none⟩) hg v6).setCell (p := ⟨g, 7, none⟩) hg v7
theorem Free.put8 {w : World} {b : Nat} (h : Free w b) (g : Nat) (v0 v1 v2 v3 v4 v5 v6 v7 : Value) :
    Free ((((((((w.setCell ⟨g, 0, none⟩ v0).setCell ⟨g, 1, none⟩ v1).setCell ⟨g, 2, none⟩ v2).setCell ⟨g, 3, none⟩ v3).setCell ⟨g, 4, none⟩ v4).setCell ⟨g, 5, none⟩ v5).setCell ⟨g, 6, none⟩ v6).setCell ⟨g, 7, none⟩ v7) b :=
  (((((((h.set g 0 v0).set g 1 v1).set g 2 v2).set g 3 v3).set g 4 v4).set g 5 v5).set g 6 v6).set g 7 v7
theorem DIn.put8 {w : World} {ad : Option Addr} {n cap : Nat} {fu fa : Int} {fs : List F} (h : DIn w ad n cap fu fa fs) {g : Nat} (ho : (Value.slice ad n cap).ownBlock ≠ some g) (v0 v1 v2 v3 v4 v5 v6 v7 : Value) :
    DIn ((((((((w.setCell ⟨g, 0, none⟩ v0).setCell ⟨g, 1, none⟩ v1).setCell ⟨g, 2, none⟩ v2).setCell ⟨g, 3, none⟩ v3).setCell ⟨g, 4, none⟩ v4).setCell ⟨g, 5, none⟩ v5).setCell ⟨g, 6, none⟩ v6).setCell ⟨g, 7, none⟩ v7) ad n cap fu fa fs :=
  ⟨(Inp.set (Inp.set (Inp.set (Inp.set (Inp.set (Inp.set (Inp.set (Inp.set h.i ho) ho) ho) ho) ho) ho) ho) ho).mono (by simp [World.setCell]), h.fit, h.u0, h.u1, h.f0, h.f1⟩
theorem kd_to_below {g B : Nat} {w w' w0 : World} (h0 : Below B w0 w) (h : w.grownBy w' (some g)) (hg : B ≤ g) (hs : B ≤ w.heap.size) : Below B w0 w' :=
  h0.trans ⟨h.os, h.tape, h.output, h.size, fun k hk => h.block k (by omega) (fun e => by injection e with e; omega)⟩

set_option maxHeartbeats 4000000 in
theorem change29_any (w : World) (bx : Nat) (ad : Option Addr) (n cap : Nat) (l : L) (data : ByteArray) (hds : data.size ≤ 9223372036854775807) (h : LIn w ad n cap l) (h64 : n ≤ 1000) (hT : Tabs w) (hw : 3 < w.heap.size) (hbx : bx < w.heap.size)
    (hb : w.cell? ⟨bx, 0, none⟩ = some (.string data)) :
    Calls Tryz.prog 120 #[.agg (l.cells (.slice ad n cap)), .func (.func 121) #[] #[.pointer (some ⟨bx, 0, none⟩)]] w fun e w' => ChP w l (fun l => appM l data) e w' := by
  have HI := Lib.hid h
  have HT := Lib.hid hT
  clear h hT
  obtain ⟨⟨fs, down, fuse, fault⟩, size, fr, nx, broken⟩ := l
  have hb0 : Below w.heap.size w ((w.alloc (.cells (lcells (.slice ad n cap) down fuse fault size fr nx broken) 27)).alloc (.cells zlog 27)) := ((Below.refl _ w).alloc (Nat.le_refl _) _).alloc (by rw [sz_alloc]; omega) _
  have hx0 : ((w.alloc (.cells (lcells (.slice ad n cap) down fuse fault size fr nx broken) 27)).alloc (.cells zlog 27)).heap[w.heap.size]? = some (.cells (lcells (.slice ad n cap) down fuse fault size fr nx broken) 27 (0, 0)) := (((Below.refl _ (w.alloc (.cells (lcells (.slice ad n cap) down fuse fault size fr nx broken) 27))).alloc (Nat.le_refl _) (.cells zlog 27)).block _ (by rw [sz_alloc]; omega)).trans (blk_new w _)
  have hx1 : ((w.alloc (.cells (lcells (.slice ad n cap) down fuse fault size fr nx broken) 27)).alloc (.cells zlog 27)).heap[w.heap.size + 1]? = some (.cells zlog 27 (0, 0)) := by
    have := blk_new (w.alloc (.cells (lcells (.slice ad n cap) down fuse fault size fr nx broken) 27)) (.cells zlog 27)
    rwa [sz_alloc] at this
  have HB0 := Lib.hid hb0
  have Hx0 := Lib.hid hx0
  have Hx1 := Lib.hid hx1
  clear hb0 hx0 hx1
  go_enter Tryz.func120, Tryz.ntmps120
  go_wp2_with fail
  refine (lcheck_any _ ad n cap _ (HI.out.under HB0.out)).mono ?_
  rintro e w1 ⟨c, rfl, hc, hb1⟩
  replace Hx0 := Lib.hid ((hb1.block _ (Array.getElem?_eq_some_iff.1 Hx0.out).1).trans Hx0.out)
  have Hx1' := Lib.hid ((hb1.block _ (Array.getElem?_eq_some_iff.1 Hx1.out).1).trans Hx1.out)
  have hz1 := (Array.getElem?_eq_some_iff.1 Hx1'.out).1
  have Hb1 := Lib.hid (HB0.out.trans (hb1.mono HB0.out.size))
  clear hb1
  rcases hc with ⟨hR, rfl⟩ | ⟨hR, rfl⟩
  · have HRt := Lib.hid hR
    clear hR
    obtain ⟨d0, d1, d2, d3, d4, d5, d6, d7⟩ := box8 Hx0.out
    have hz0 := (Array.getElem?_eq_some_iff.1 Hx0.out).1
    go_wp2_with fail
    refine (lbegin_any w1 ad cap n _ (HI.out.d.i.under Hb1.out) h64).mono ?_
    rintro e w2 ⟨g, ad2, n2, cap2, rfl, hg, hi2, ho2, hlow, hof, hb2⟩
    have HL := Lib.hid (show LAt w2 g ad2 n2 cap2 ⟨⟨fs, down, fuse, fault⟩, size, fr, nx, broken⟩ from ⟨hg, ⟨hi2, HI.out.d.fit, HI.out.d.u0, HI.out.d.u1, HI.out.d.f0, HI.out.d.f1⟩, ho2, fun b e => (hof b e).2⟩)
    have Hof := Lib.hid (fun b e => (hof b e).1)
    have hgB : w.heap.size + 1 < g := by omega
    have HgB := Lib.hid hgB
    have Hz1 := Lib.hid hz1
    have hb2w : w2.cell? ⟨bx, 0, none⟩ = some (.string data) := (World.cell?_of_block ((Hb1.out.trans (hb2.mono Hb1.out.size)).block bx hbx)).trans hb
    have Hbw := Lib.hid hb2w
    have hT2 := HT.out.under (Hb1.out.trans (hb2.mono Hb1.out.size))
    have HT2 := Lib.hid hT2
    clear hb2w hT2
    have Hx2 := Lib.hid ((hb2.block _ hz1).trans Hx1'.out)
    have Hb2 := Lib.hid (Hb1.out.trans (hb2.mono Hb1.out.size))
    have Hb2w := Lib.hid hb2.size
    clear d0 d1 d2 d3 d4 d5 d6 d7 hz0 hz1 hg hi2 ho2 hof hb2 hgB Hx0 Hx1 Hx1'
    obtain ⟨d0, d1, d2, d3, d4, d5, d6, d7⟩ := box8 HL.out.h
    have hlg := (Array.getElem?_eq_some_iff.1 HL.out.h).1
    cases broken with
    | true =>
      have hz := (Array.getElem?_eq_some_iff.1 Hx2.out).1
      have f0 := frozen_of_row w2 (w.heap.size + 1) 0 _ 27 Hx2.out
      have f1 := frozen_of_row w2 (w.heap.size + 1) 1 _ 27 Hx2.out
      have f2 := frozen_of_row w2 (w.heap.size + 1) 2 _ 27 Hx2.out
      have f3 := frozen_of_row w2 (w.heap.size + 1) 3 _ 27 Hx2.out
      have f4 := frozen_of_row w2 (w.heap.size + 1) 4 _ 27 Hx2.out
      have f5 := frozen_of_row w2 (w.heap.size + 1) 5 _ 27 Hx2.out
      have f6 := frozen_of_row w2 (w.heap.size + 1) 6 _ 27 Hx2.out
      have f7 := frozen_of_row w2 (w.heap.size + 1) 7 _ 27 Hx2.out
      obtain ⟨y0, y1, y2, y3, y4, y5, y6, y7⟩ := box8 Hx2.out
      have Hput := Lib.hid (cell_put8 Hx2.out (.slice ad2 n2 cap2) (.bool down) (.int .i64 fuse) (.int .i64 fault) (.int .i64 size) (.int .u64 fr) (.int .u64 nx) (.bool true))
      go_wp2
      exact bodyPost_ret (v := .tuple #[.agg (lcells (.slice ad2 n2 cap2) down fuse fault size fr nx true), .int .i64 6]) (by simp [results, Tryz.results120, go_sem, y0, y1, y2, y3, y4, y5, y6, y7, Hput.out.1, Hput.out.2.1, Hput.out.2.2.1, Hput.out.2.2.2.1, Hput.out.2.2.2.2.1, Hput.out.2.2.2.2.2.1, Hput.out.2.2.2.2.2.2.1, Hput.out.2.2.2.2.2.2.2]) rfl
        ⟨below_put8 Hb2.out (by omega) _ _ _ _ _ _ _ _, .inr ⟨HRt.out, ad2, n2, cap2, rfl, HL.out.d.put8 (fun e => by have h1 := Hof.out _ e; have h2 := Hz1.out; omega) _ _ _ _ _ _ _ _, fun b hb => ⟨by have h1 := Hof.out _ hb; have h2 := Hb1.out.size; omega, (HL.out.f b hb).put8 _ _ _ _ _ _ _ _ _⟩⟩⟩
    | false =>
      go_wp2_with fail
      refine (append1_any w2 g bx ad2 n2 cap2 _ data HL.out HRt.out.1 HT2.out (by have := HgB.out; omega) hds HI.out.n0 HRt.out.2.2.2 Hbw.out).mono ?_
      rintro e w3 ⟨ad3, n3, cap3, rfl, hL3, hg3, ho3⟩
      have Hx3 := Lib.hid ((hg3.block _ (Nat.lt_of_lt_of_le Hz1.out (by have := Hb2w.out; omega)) (fun e => by injection e with e; have := HgB.out; omega)).trans Hx2.out)
      obtain ⟨⟨⟨⟨fs3, dn3, fu3, fa3⟩, sz3, fr3, nx3, br3⟩, c3⟩, hr⟩ : ∃ r, appM ⟨⟨fs, down, fuse, fault⟩, size, fr, nx, false⟩ data = r := ⟨_, rfl⟩
      rw [hr] at hL3 ⊢
      have hch : chM (fun l => appM l data) ⟨⟨fs, down, fuse, fault⟩, size, fr, nx, false⟩ = (⟨⟨fs3, dn3, fu3, fa3⟩, sz3, fr3, nx3, br3⟩, c3) := by unfold chM; rw [if_neg (by simp)]; exact hr
      have Hch := Lib.hid hch
      have HL3 := Lib.hid hL3
      have Hb3 := Lib.hid (kd_to_below Hb2.out hg3 (by have := HgB.out; omega) Hb2.out.size)
      have Ho3 := Lib.hid (show ∀ b, (Value.slice ad3 n3 cap3).ownBlock = some b → w1.heap.size ≤ b from fun b hb => (ho3 b hb).elim (fun h => Hof.out b h) (fun h => by have := Hb2w.out; omega))
      clear hr hch hL3 hg3 ho3 d0 d1 d2 d3 d4 d5 d6 d7
      have hz := (Array.getElem?_eq_some_iff.1 Hx3.out).1
      have f0 := frozen_of_row w3 (w.heap.size + 1) 0 _ 27 Hx3.out
      have f1 := frozen_of_row w3 (w.heap.size + 1) 1 _ 27 Hx3.out
      have f2 := frozen_of_row w3 (w.heap.size + 1) 2 _ 27 Hx3.out
      have f3 := frozen_of_row w3 (w.heap.size + 1) 3 _ 27 Hx3.out
      have f4 := frozen_of_row w3 (w.heap.size + 1) 4 _ 27 Hx3.out
      have f5 := frozen_of_row w3 (w.heap.size + 1) 5 _ 27 Hx3.out
      have f6 := frozen_of_row w3 (w.heap.size + 1) 6 _ 27 Hx3.out
      have f7 := frozen_of_row w3 (w.heap.size + 1) 7 _ 27 Hx3.out
      obtain ⟨y0, y1, y2, y3, y4, y5, y6, y7⟩ := box8 Hx3.out
      have Hput := Lib.hid (cell_put8 Hx3.out (.slice ad3 n3 cap3) (.bool dn3) (.int .i64 fu3) (.int .i64 fa3) (.int .i64 sz3) (.int .u64 fr3) (.int .u64 nx3) (.bool br3))
      obtain ⟨d0, d1, d2, d3, d4, d5, d6, d7⟩ := box8 HL3.out.h
      have hlg3 := (Array.getElem?_eq_some_iff.1 HL3.out.h).1
      go_wp2
      exact bodyPost_ret (v := .tuple #[.agg (lcells (.slice ad3 n3 cap3) dn3 fu3 fa3 sz3 fr3 nx3 br3), .int .i64 c3]) (by simp [results, Tryz.results120, go_sem, y0, y1, y2, y3, y4, y5, y6, y7, Hput.out.1, Hput.out.2.1, Hput.out.2.2.1, Hput.out.2.2.2.1, Hput.out.2.2.2.2.1, Hput.out.2.2.2.2.2.1, Hput.out.2.2.2.2.2.2.1, Hput.out.2.2.2.2.2.2.2]) rfl
        ⟨below_put8 Hb3.out (by omega) _ _ _ _ _ _ _ _, .inr ⟨HRt.out, ad3, n3, cap3, by rw [Hch.out], by rw [Hch.out]; exact HL3.out.d.put8 (fun e => by have h1 := Ho3.out _ e; have h2 := Hz1.out; omega) _ _ _ _ _ _ _ _, fun b hb => ⟨by have h1 := Ho3.out _ hb; have h2 := Hb1.out.size; omega, (HL3.out.f b hb).put8 _ _ _ _ _ _ _ _ _⟩⟩⟩
  · have HR := Lib.hid hR
    clear hR
    have f0 := frozen_of_row w1 (w.heap.size + 1) 0 _ 27 Hx1'.out
    have f1 := frozen_of_row w1 (w.heap.size + 1) 1 _ 27 Hx1'.out
    have f2 := frozen_of_row w1 (w.heap.size + 1) 2 _ 27 Hx1'.out
    have f3 := frozen_of_row w1 (w.heap.size + 1) 3 _ 27 Hx1'.out
    have f4 := frozen_of_row w1 (w.heap.size + 1) 4 _ 27 Hx1'.out
    have f5 := frozen_of_row w1 (w.heap.size + 1) 5 _ 27 Hx1'.out
    have f6 := frozen_of_row w1 (w.heap.size + 1) 6 _ 27 Hx1'.out
    have f7 := frozen_of_row w1 (w.heap.size + 1) 7 _ 27 Hx1'.out
    obtain ⟨y0, y1, y2, y3, y4, y5, y6, y7⟩ := box8 Hx1'.out
    have Hput := Lib.hid (cell_put8 Hx1'.out (.slice none 0 0) (.bool false) (.int .i64 0) (.int .i64 0) (.int .i64 0) (.int .u64 0) (.int .u64 0) (.bool false))
    go_wp2
    exact bodyPost_ret (v := .tuple #[.agg zlog, .int .i64 6]) (by simp [results, Tryz.results120, go_sem, y0, y1, y2, y3, y4, y5, y6, y7, Hput.out.1, Hput.out.2.1, Hput.out.2.2.1, Hput.out.2.2.2.1, Hput.out.2.2.2.2.1, Hput.out.2.2.2.2.2.1, Hput.out.2.2.2.2.2.2.1, Hput.out.2.2.2.2.2.2.2]) rfl
      ⟨below_put8 Hb1.out (by omega) _ _ _ _ _ _ _ _, .inl ⟨HR.out, rfl⟩⟩

set_option maxHeartbeats 4000000 in
theorem change32_any (w : World) (bx : Nat) (ad : Option Addr) (n cap : Nat) (l : L) (q : Int) (hq0 : 0 ≤ q) (hq1 : q ≤ 18446744073709551615) (h : LIn w ad n cap l) (h64 : n ≤ 1000) (hT : Tabs w) (hw : 3 < w.heap.size) (hbx : bx < w.heap.size)
    (hb : w.cell? ⟨bx, 0, none⟩ = some (.int .u64 q)) :
    Calls Tryz.prog 120 #[.agg (l.cells (.slice ad n cap)), .func (.func 123) #[] #[.pointer (some ⟨bx, 0, none⟩)]] w fun e w' => ChP w l (fun l => cutM l q) e w' := by
  have HI := Lib.hid h
  have HT := Lib.hid hT
  clear h hT
  obtain ⟨⟨fs, down, fuse, fault⟩, size, fr, nx, broken⟩ := l
  have hb0 : Below w.heap.size w ((w.alloc (.cells (lcells (.slice ad n cap) down fuse fault size fr nx broken) 27)).alloc (.cells zlog 27)) := ((Below.refl _ w).alloc (Nat.le_refl _) _).alloc (by rw [sz_alloc]; omega) _
  have hx0 : ((w.alloc (.cells (lcells (.slice ad n cap) down fuse fault size fr nx broken) 27)).alloc (.cells zlog 27)).heap[w.heap.size]? = some (.cells (lcells (.slice ad n cap) down fuse fault size fr nx broken) 27 (0, 0)) := (((Below.refl _ (w.alloc (.cells (lcells (.slice ad n cap) down fuse fault size fr nx broken) 27))).alloc (Nat.le_refl _) (.cells zlog 27)).block _ (by rw [sz_alloc]; omega)).trans (blk_new w _)
  have hx1 : ((w.alloc (.cells (lcells (.slice ad n cap) down fuse fault size fr nx broken) 27)).alloc (.cells zlog 27)).heap[w.heap.size + 1]? = some (.cells zlog 27 (0, 0)) := by
    have := blk_new (w.alloc (.cells (lcells (.slice ad n cap) down fuse fault size fr nx broken) 27)) (.cells zlog 27)
    rwa [sz_alloc] at this
  have HB0 := Lib.hid hb0
  have Hx0 := Lib.hid hx0
  have Hx1 := Lib.hid hx1
  clear hb0 hx0 hx1
  go_enter Tryz.func120, Tryz.ntmps120
  go_wp2_with fail
  refine (lcheck_any _ ad n cap _ (HI.out.under HB0.out)).mono ?_
  rintro e w1 ⟨c, rfl, hc, hb1⟩
  replace Hx0 := Lib.hid ((hb1.block _ (Array.getElem?_eq_some_iff.1 Hx0.out).1).trans Hx0.out)
  have Hx1' := Lib.hid ((hb1.block _ (Array.getElem?_eq_some_iff.1 Hx1.out).1).trans Hx1.out)
  have hz1 := (Array.getElem?_eq_some_iff.1 Hx1'.out).1
  have Hb1 := Lib.hid (HB0.out.trans (hb1.mono HB0.out.size))
  clear hb1
  rcases hc with ⟨hR, rfl⟩ | ⟨hR, rfl⟩
  · have HRt := Lib.hid hR
    clear hR
    obtain ⟨d0, d1, d2, d3, d4, d5, d6, d7⟩ := box8 Hx0.out
    have hz0 := (Array.getElem?_eq_some_iff.1 Hx0.out).1
    go_wp2_with fail
    refine (lbegin_any w1 ad cap n _ (HI.out.d.i.under Hb1.out) h64).mono ?_
    rintro e w2 ⟨g, ad2, n2, cap2, rfl, hg, hi2, ho2, hlow, hof, hb2⟩
    have HL := Lib.hid (show LAt w2 g ad2 n2 cap2 ⟨⟨fs, down, fuse, fault⟩, size, fr, nx, broken⟩ from ⟨hg, ⟨hi2, HI.out.d.fit, HI.out.d.u0, HI.out.d.u1, HI.out.d.f0, HI.out.d.f1⟩, ho2, fun b e => (hof b e).2⟩)
    have Hof := Lib.hid (fun b e => (hof b e).1)
    have hgB : w.heap.size + 1 < g := by omega
    have HgB := Lib.hid hgB
    have Hz1 := Lib.hid hz1
    have hb2w : w2.cell? ⟨bx, 0, none⟩ = some (.int .u64 q) := (World.cell?_of_block ((Hb1.out.trans (hb2.mono Hb1.out.size)).block bx hbx)).trans hb
    have Hbw := Lib.hid hb2w
    have hT2 := HT.out.under (Hb1.out.trans (hb2.mono Hb1.out.size))
    have HT2 := Lib.hid hT2
    clear hb2w hT2
    have Hx2 := Lib.hid ((hb2.block _ hz1).trans Hx1'.out)
    have Hb2 := Lib.hid (Hb1.out.trans (hb2.mono Hb1.out.size))
    have Hb2w := Lib.hid hb2.size
    clear d0 d1 d2 d3 d4 d5 d6 d7 hz0 hz1 hg hi2 ho2 hof hb2 hgB Hx0 Hx1 Hx1'
    obtain ⟨d0, d1, d2, d3, d4, d5, d6, d7⟩ := box8 HL.out.h
    have hlg := (Array.getElem?_eq_some_iff.1 HL.out.h).1
    cases broken with
    | true =>
      have hz := (Array.getElem?_eq_some_iff.1 Hx2.out).1
      have f0 := frozen_of_row w2 (w.heap.size + 1) 0 _ 27 Hx2.out
      have f1 := frozen_of_row w2 (w.heap.size + 1) 1 _ 27 Hx2.out
      have f2 := frozen_of_row w2 (w.heap.size + 1) 2 _ 27 Hx2.out
      have f3 := frozen_of_row w2 (w.heap.size + 1) 3 _ 27 Hx2.out
      have f4 := frozen_of_row w2 (w.heap.size + 1) 4 _ 27 Hx2.out
      have f5 := frozen_of_row w2 (w.heap.size + 1) 5 _ 27 Hx2.out
      have f6 := frozen_of_row w2 (w.heap.size + 1) 6 _ 27 Hx2.out
      have f7 := frozen_of_row w2 (w.heap.size + 1) 7 _ 27 Hx2.out
      obtain ⟨y0, y1, y2, y3, y4, y5, y6, y7⟩ := box8 Hx2.out
      have Hput := Lib.hid (cell_put8 Hx2.out (.slice ad2 n2 cap2) (.bool down) (.int .i64 fuse) (.int .i64 fault) (.int .i64 size) (.int .u64 fr) (.int .u64 nx) (.bool true))
      go_wp2
      exact bodyPost_ret (v := .tuple #[.agg (lcells (.slice ad2 n2 cap2) down fuse fault size fr nx true), .int .i64 6]) (by simp [results, Tryz.results120, go_sem, y0, y1, y2, y3, y4, y5, y6, y7, Hput.out.1, Hput.out.2.1, Hput.out.2.2.1, Hput.out.2.2.2.1, Hput.out.2.2.2.2.1, Hput.out.2.2.2.2.2.1, Hput.out.2.2.2.2.2.2.1, Hput.out.2.2.2.2.2.2.2]) rfl
        ⟨below_put8 Hb2.out (by omega) _ _ _ _ _ _ _ _, .inr ⟨HRt.out, ad2, n2, cap2, rfl, HL.out.d.put8 (fun e => by have h1 := Hof.out _ e; have h2 := Hz1.out; omega) _ _ _ _ _ _ _ _, fun b hb => ⟨by have h1 := Hof.out _ hb; have h2 := Hb1.out.size; omega, (HL.out.f b hb).put8 _ _ _ _ _ _ _ _ _⟩⟩⟩
    | false =>
      go_wp2_with fail
      refine (drop1_any w2 g bx ad2 n2 cap2 _ q HL.out HRt.out.1 HT2.out (by have := HgB.out; omega) hq0 hq1 Hbw.out).mono ?_
      rintro e w3 ⟨ad3, n3, cap3, rfl, hL3, hg3, ho3⟩
      have Hx3 := Lib.hid ((hg3.block _ (Nat.lt_of_lt_of_le Hz1.out (by have := Hb2w.out; omega)) (fun e => by injection e with e; have := HgB.out; omega)).trans Hx2.out)
      obtain ⟨⟨⟨⟨fs3, dn3, fu3, fa3⟩, sz3, fr3, nx3, br3⟩, c3⟩, hr⟩ : ∃ r, cutM ⟨⟨fs, down, fuse, fault⟩, size, fr, nx, false⟩ q = r := ⟨_, rfl⟩
      rw [hr] at hL3 ⊢
      have hch : chM (fun l => cutM l q) ⟨⟨fs, down, fuse, fault⟩, size, fr, nx, false⟩ = (⟨⟨fs3, dn3, fu3, fa3⟩, sz3, fr3, nx3, br3⟩, c3) := by unfold chM; rw [if_neg (by simp)]; exact hr
      have Hch := Lib.hid hch
      have HL3 := Lib.hid hL3
      have Hb3 := Lib.hid (kd_to_below Hb2.out hg3 (by have := HgB.out; omega) Hb2.out.size)
      have Ho3 := Lib.hid (show ∀ b, (Value.slice ad3 n3 cap3).ownBlock = some b → w1.heap.size ≤ b from fun b hb => (ho3 b hb).elim (fun h => Hof.out b h) (fun h => by have := Hb2w.out; omega))
      clear hr hch hL3 hg3 ho3 d0 d1 d2 d3 d4 d5 d6 d7
      have hz := (Array.getElem?_eq_some_iff.1 Hx3.out).1
      have f0 := frozen_of_row w3 (w.heap.size + 1) 0 _ 27 Hx3.out
      have f1 := frozen_of_row w3 (w.heap.size + 1) 1 _ 27 Hx3.out
      have f2 := frozen_of_row w3 (w.heap.size + 1) 2 _ 27 Hx3.out
      have f3 := frozen_of_row w3 (w.heap.size + 1) 3 _ 27 Hx3.out
      have f4 := frozen_of_row w3 (w.heap.size + 1) 4 _ 27 Hx3.out
      have f5 := frozen_of_row w3 (w.heap.size + 1) 5 _ 27 Hx3.out
      have f6 := frozen_of_row w3 (w.heap.size + 1) 6 _ 27 Hx3.out
      have f7 := frozen_of_row w3 (w.heap.size + 1) 7 _ 27 Hx3.out
      obtain ⟨y0, y1, y2, y3, y4, y5, y6, y7⟩ := box8 Hx3.out
      have Hput := Lib.hid (cell_put8 Hx3.out (.slice ad3 n3 cap3) (.bool dn3) (.int .i64 fu3) (.int .i64 fa3) (.int .i64 sz3) (.int .u64 fr3) (.int .u64 nx3) (.bool br3))
      obtain ⟨d0, d1, d2, d3, d4, d5, d6, d7⟩ := box8 HL3.out.h
      have hlg3 := (Array.getElem?_eq_some_iff.1 HL3.out.h).1
      go_wp2
      exact bodyPost_ret (v := .tuple #[.agg (lcells (.slice ad3 n3 cap3) dn3 fu3 fa3 sz3 fr3 nx3 br3), .int .i64 c3]) (by simp [results, Tryz.results120, go_sem, y0, y1, y2, y3, y4, y5, y6, y7, Hput.out.1, Hput.out.2.1, Hput.out.2.2.1, Hput.out.2.2.2.1, Hput.out.2.2.2.2.1, Hput.out.2.2.2.2.2.1, Hput.out.2.2.2.2.2.2.1, Hput.out.2.2.2.2.2.2.2]) rfl
        ⟨below_put8 Hb3.out (by omega) _ _ _ _ _ _ _ _, .inr ⟨HRt.out, ad3, n3, cap3, by rw [Hch.out], by rw [Hch.out]; exact HL3.out.d.put8 (fun e => by have h1 := Ho3.out _ e; have h2 := Hz1.out; omega) _ _ _ _ _ _ _ _, fun b hb => ⟨by have h1 := Ho3.out _ hb; have h2 := Hb1.out.size; omega, (HL3.out.f b hb).put8 _ _ _ _ _ _ _ _ _⟩⟩⟩
  · have HR := Lib.hid hR
    clear hR
    have f0 := frozen_of_row w1 (w.heap.size + 1) 0 _ 27 Hx1'.out
    have f1 := frozen_of_row w1 (w.heap.size + 1) 1 _ 27 Hx1'.out
    have f2 := frozen_of_row w1 (w.heap.size + 1) 2 _ 27 Hx1'.out
    have f3 := frozen_of_row w1 (w.heap.size + 1) 3 _ 27 Hx1'.out
    have f4 := frozen_of_row w1 (w.heap.size + 1) 4 _ 27 Hx1'.out
    have f5 := frozen_of_row w1 (w.heap.size + 1) 5 _ 27 Hx1'.out
    have f6 := frozen_of_row w1 (w.heap.size + 1) 6 _ 27 Hx1'.out
    have f7 := frozen_of_row w1 (w.heap.size + 1) 7 _ 27 Hx1'.out
    obtain ⟨y0, y1, y2, y3, y4, y5, y6, y7⟩ := box8 Hx1'.out
    have Hput := Lib.hid (cell_put8 Hx1'.out (.slice none 0 0) (.bool false) (.int .i64 0) (.int .i64 0) (.int .i64 0) (.int .u64 0) (.int .u64 0) (.bool false))
    go_wp2
    exact bodyPost_ret (v := .tuple #[.agg zlog, .int .i64 6]) (by simp [results, Tryz.results120, go_sem, y0, y1, y2, y3, y4, y5, y6, y7, Hput.out.1, Hput.out.2.1, Hput.out.2.2.1, Hput.out.2.2.2.1, Hput.out.2.2.2.2.1, Hput.out.2.2.2.2.2.1, Hput.out.2.2.2.2.2.2.1, Hput.out.2.2.2.2.2.2.2]) rfl
      ⟨below_put8 Hb1.out (by omega) _ _ _ _ _ _ _ _, .inl ⟨HR.out, rfl⟩⟩
end Go.Proofs.YtlgbehagflnfgaaGreatDoor
