/- The statement of the law DiskSafe is proved: for every two numbers, every list of steps and every list of numbers within the form's own reach, the law returns true, and each argument reads afterwards as it did; no condition of ours. -/
import Derived.Test.YtcefhcailhediaaRows
import Derived.Test.YtcefhcailhediaaMth2
import Derived.Test.YtcefhcailhediaaOpn
import Derived.Test.YtcefhcailhediaaMth3
namespace Go.Proofs.Ytcefhcailhediaa.diskSafe
open Go.ChangeShapes Go.WideShapes Go.ChangeAt Go.RowKit
open Go.ChangeMaps (open_string shut_string)
set_option linter.unusedVariables false
set_option linter.unusedSimpArgs false
attribute [local go_sem] run_store_func run_store_nilf
theorem own : ownKnob Try.prog.godebug = none := by kernel_rfl

/-- at ad lie the steps ss -/
def FitS (s : S) : Prop := s.name.size ≤ 9223372036854775807 ∧ s.data.size ≤ 9223372036854775807
structure At4 (w : World) (g off i : Nat) (s : S) : Prop where
  q0 : w.cell? ⟨g, off + i * 4, none⟩ = some (.int .u8 s.kind)
  q1 : w.cell? ⟨g, off + i * 4 + 1, none⟩ = some (.string s.name)
  q2 : w.cell? ⟨g, off + i * 4 + 2, none⟩ = some (.string s.data)
  q3 : w.cell? ⟨g, off + i * 4 + 3, none⟩ = some (.int .i64 s.size)
def Steps (w : World) (B : Nat) (ad : Option Addr) (ss : List S) : Prop :=
  ss ≠ [] → ∃ g off, ad = some ⟨g, off, none⟩ ∧ g < B ∧ ∀ i s, ss[i]? = some s → At4 w g off i s
theorem Steps.keep {w w' : World} {B : Nat} {ad : Option Addr} {ss : List S} (h : Steps w B ad ss) (hb : Below B w w') : Steps w' B ad ss := by
  intro hne
  obtain ⟨g, off, e, hg, hi⟩ := h hne
  exact ⟨g, off, e, hg, fun i s hs => ⟨(hb.cell (p := ⟨g, _, none⟩) hg).trans (hi i s hs).q0, (hb.cell (p := ⟨g, _, none⟩) hg).trans (hi i s hs).q1, (hb.cell (p := ⟨g, _, none⟩) hg).trans (hi i s hs).q2, (hb.cell (p := ⟨g, _, none⟩) hg).trans (hi i s hs).q3⟩⟩
section
variable {H : Type} {enc : TypeId × Value → H} {w : World}
theorem list4 {l : List Value} (h : l.length = 4) : ∃ a b c d, l = [a, b, c, d] := by
  match l, h with
  | [a, b, c, d], _ => exact ⟨a, b, c, d, rfl⟩
theorem Try.cells25 : Try.prog.cellsOf 25 = 1 := by kernel_rfl
theorem open_one {base : Nat} {spare : Nat → Bool} {held : Bool} {fuel : Nat} {cs : List Value} {x : DataW H × List MemPlace} (h : DataW.trod enc Try.prog w base spare held fuel 27 cs = some x) :
    ∃ s : S, FitS s ∧ cs = (scells s.kind s.name s.data s.size).toList := by
  obtain ⟨y0, y1, y2, y3, n, hx, hlen, h0, h1, h2, h3⟩ := Joins.trod_struct4 Try.underlying27 h
  rw [Try.cells27] at hlen
  obtain ⟨c0, c1, c2, c3, rfl⟩ := list4 hlen
  simp [Try.cells3, Try.cells9, Try.cells25] at h0 h1 h2 h3
  obtain ⟨k, e0, _, w0⟩ := DataW.trod_int Try.underlying25 h0
  obtain ⟨s1, e1, _, w1⟩ := DataW.trod_string Try.underlying9 h1
  obtain ⟨s2, e2, _, w2⟩ := DataW.trod_string Try.underlying9 h2
  obtain ⟨z, e3, _, w3⟩ := DataW.trod_int Try.underlying3 h3
  simp only [List.cons.injEq, and_true] at e0 e1 e2 e3
  subst e0 e1 e2 e3
  exact ⟨⟨k, s1, s2, z⟩, ⟨by simpa [maxLen] using w1, by simpa [maxLen] using w2⟩, rfl⟩
theorem open_steps {base : Nat} {v : Value} {d : DataW H} {p : List MemPlace} (hv : Value.okWide Try.prog w .any base 44 v) (h : DataW.Trod enc Try.prog w 0 (fun _ => true) true 44 v d p) :
    ∃ ad n cap ss, v = .slice ad n cap ∧ n = ss.length ∧ Steps w w.heap.size ad ss ∧ (∀ s ∈ ss, FitS s) ∧ n ≤ 9223372036854775807 := by
  obtain ⟨ad, len, cap, rfl⟩ := okWide_slice Try.underlying44 hv
  obtain ⟨fuel, hf⟩ := h
  rcases Deep.open_slice Try.underlying44 hf with ⟨hcs, _⟩ | ⟨a, len', cap', m, n, D, Pl, hcs, _, hl, hm, hmm, _, hi⟩
  · simp [Value.cells] at hcs
    obtain ⟨rfl, rfl, rfl⟩ := hcs
    exact ⟨none, 0, 0, [], rfl, rfl, fun h => absurd rfl h, (fun s hs => by cases hs), by omega⟩
  · simp [Value.cells] at hcs
    obtain ⟨rfl, rfl, rfl⟩ := hcs
    simp only [if_true] at hmm
    subst hmm
    rw [Try.cells27] at hi
    by_cases h0 : len = 0
    · subst h0
      exact ⟨_, 0, _, [], rfl, rfl, fun h => absurd rfl h, (fun s hs => by cases hs), by omega⟩
    obtain ⟨b, off, spot⟩ := a
    have hs : spot = none := by
      obtain ⟨cs', hc, _⟩ := hi 0 (by omega)
      obtain ⟨_, hlc, hcell⟩ := World.cells?_some hc
      have hc0 := hcell 0 (by omega)
      have he : cs'[0]? = some (cs'[0]'(by omega)) := by simp
      rw [he] at hc0
      simpa [Addr.add] using World.cell?_spot hc0
    subst hs
    have hP : ∀ i, i < len → ∃ s : S, FitS s ∧ b < w.heap.size ∧ At4 w b off i s := by
      intro i hil
      obtain ⟨cs', hc, ht⟩ := hi i (by omega)
      obtain ⟨s, hfit, rfl⟩ := open_one ht
      obtain ⟨_, _, hcell⟩ := World.cells?_some hc
      have hc0 := hcell 0 (by omega)
      have hc1 := hcell 1 (by omega)
      have hc2 := hcell 2 (by omega)
      have hc3 := hcell 3 (by omega)
      simp only [Addr.add_lit] at hc0 hc1 hc2 hc3
      exact ⟨s, hfit, World.block_lt_of_cell? w _ hc0, hc0, hc1, hc2, hc3⟩
    obtain ⟨ss, hfl, hfs⟩ := list_choose len hP
    refine ⟨_, _, _, ss, rfl, hfl.symm, fun hne => ?_, fun s hs => ?_, by simp only [maxLen] at hm; omega⟩
    · have h0 : 0 < ss.length := List.length_pos_iff.2 hne
      obtain ⟨_, hb, _⟩ := hfs 0 ss[0] (by simp)
      exact ⟨b, off, rfl, hb, fun i f hf => (hfs i f hf).2.2⟩
    · obtain ⟨i, hi'⟩ := List.getElem?_of_mem hs
      exact (hfs i s hi').1
end

/-- where a change says that the power is off, it is -/
theorem doo_down {d : D} {s : S} (hR : Right d.files) (h : (doo d s).2 = 17) : (doo d s).1.down = true := by
  unfold doo at h ⊢
  rw [if_pos hR] at h ⊢
  by_cases hk : 1 ≤ s.kind ∧ s.kind ≤ 5
  · rw [if_pos hk] at h ⊢
    unfold run at h ⊢
    by_cases c1 : d.down = true
    · rw [if_pos c1]; exact c1
    · rw [if_neg c1] at h ⊢
      by_cases c2 : ref d.files s ≠ 0
      · rw [if_pos c2] at h
        have := ref_vals d.files s
        omega
      · rw [if_neg c2] at h ⊢
        by_cases c3 : d.fault = 0
        · rw [if_pos c3] at h; cases h
        · rw [if_neg c3] at h ⊢
          by_cases c4 : d.fuse = 0
          · rw [if_pos c4]
          · rw [if_neg c4] at h; cases h
  · rw [if_neg hk] at h; cases h

/-- the disk of the loop -/
def Loop (w wr : World) (q : Nat) : Prop := ∃ ad n cap down fuse fault fs, Var wr q ad n cap down fuse fault fs ∧ Right fs ∧ Num fuse ∧ Num fault ∧ (fs ≠ [] → (Value.slice ad n cap).ownBlock ≠ some q) ∧ Below w.heap.size w wr

set_option maxHeartbeats 8000000 in
set_option maxRecDepth 100000 in
theorem walk (w : World) (fuse0 fault0 : Int) (ads : Option Addr) (m capm : Nat) (ss : List S) (adk : Option Addr) (nk capk : Nat) (ks : List Int) (hf0 : Num fuse0) (hf1 : Num fault0) (hS : Steps w w.heap.size ads ss) (hfs : ∀ s ∈ ss, FitS s) (hm : m = ss.length) (hm63 : m ≤ 9223372036854775807)
    (hk : Ints w w.heap.size adk ks) (hnk : nk = ks.length) (hnk63 : nk ≤ 9223372036854775807) :
    Calls Try.prog 4 #[.int .i64 fuse0, .int .i64 fault0, .slice ads m capm, .slice adk nk capk] w fun e w' => e = .returned (.bool true) ∧ Below w.heap.size w w' := by
  have HS := Lib.hid hS
  have Hfs := Lib.hid hfs
  have Hm := Lib.hid hm
  have Hk := Lib.hid hk
  have Hnk := Lib.hid hnk
  have Hf0 := Lib.hid hf0
  have Hf1 := Lib.hid hf1
  clear hS hfs hm hk hnk hf0 hf1
  go_enter Try.func4, Try.ntmps4
  go_wp2_with fail
  refine (lives_any _).mono ?_
  rintro e w1 ⟨rfl, hb1⟩
  have Hb1 := Lib.hid hb1
  clear hb1
  go_wp2
  go_loopw [26] (fun i wr => ∃ (j : Nat), i = .int .i64 (j : Int) ∧ j ≤ m ∧ Loop w wr w1.heap.size ∧ w1.heap.size < wr.heap.size) (fun i _ => m - (intOf i).toNat)
  case atStart =>
    refine ⟨0, rfl, by omega, ⟨none, 0, 0, false, fuse0, fault0, [], ⟨blk_new w1 _, Inp.nil _ _⟩, right_empty, Hf0.out, Hf1.out, (fun h => absurd rfl h), Hb1.out.alloc Hb1.out.size _⟩, by simp⟩
  case round =>
    obtain ⟨j, rfl, hj, hL, hqlt⟩ := hrel
    obtain ⟨ad, n, cap, dn, fu, fa, fs, hV, hR, hu, ha, hfar, hb⟩ := hL
    obtain ⟨⟨d0, d1, d2, d3⟩, g0, g1, g2, g3⟩ := hV.d.facts
    have HV := Lib.hid hV
    have HR := Lib.hid hR
    have Hu := Lib.hid hu
    have Ha := Lib.hid ha
    have Hb := Lib.hid hb
    clear hV hR hu ha hfar hb
    by_cases hlt : j < m
    · have hne : ss ≠ [] := by rintro rfl; have := Hm.out; simp at this; omega
      obtain ⟨gs, off, rfl, hg, hi⟩ := (HS.out.keep Hb.out) hne
      obtain ⟨s, hs⟩ : ∃ s, ss[j]? = some s := ⟨ss[j]'(by have := Hm.out; omega), by simp⟩
      obtain ⟨s0, s1, s2, s3⟩ := hi j s hs
      obtain ⟨sl1, sl2⟩ := Hfs.out s (List.mem_of_getElem? hs)
      have hj0 : (0 : Int) ≤ (j : Int) := by omega
      have hjm : (j : Int) < (m : Int) := by omega
      have hall := doo_all ⟨fs, dn, fu, fa⟩ s Hu.out Ha.out
      have hdown := doo_down (d := ⟨fs, dn, fu, fa⟩) (s := s) HR.out
      obtain ⟨⟨⟨fl', dn', fu', fa'⟩, code⟩, hd⟩ : ∃ r, doo ⟨fs, dn, fu, fa⟩ s = r := ⟨_, rfl⟩
      rw [hd] at hall hdown
      have Hd := Lib.hid (show doo ⟨fs, dn, fu, fa⟩ ⟨s.kind, s.name, s.data, s.size⟩ = (⟨fl', dn', fu', fa'⟩, code) from hd)
      have Hall := Lib.hid hall
      have Hdown := Lib.hid hdown
      have Hfit := Lib.hid (fun f hf => okF_fit (HR.out.ok f hf))
      have hal := (Below.refl wr.heap.size wr).alloc (Nat.le_refl _) (.cells (scells s.kind s.name s.data s.size) 27)
      have HV1 := Lib.hid (HV.out.under hal)
      have Hb1' := Lib.hid (Hb.out.trans (hal.mono Hb.out.size))
      have Hsx := Lib.hid (blk_new wr (.cells (scells s.kind s.name s.data s.size) 27))
      clear hi hs hne hg hall hdown hd hal
      go_wp2_with fail
      refine (Do_any _ ad n cap dn fu fa fs s.kind s.name s.data s.size ⟨HV1.out.i, Hfit.out, Hu.out.1, Hu.out.2, Ha.out.1, Ha.out.2⟩ sl1 sl2).mono ?_
      rw [Hd.out]
      rintro e w2 ⟨ad2, n2, cap2, rfl, hi, hb2, hf⟩
      have hal := (Below.refl w2.heap.size w2).alloc (Nat.le_refl _) (.cells (dcells (.slice ad2 n2 cap2) dn' fu' fa') 24)
      have HV2 := Lib.hid (Var.new (down := dn') (fuse := fu') (fault := fa') hi)
      have HVq := Lib.hid ((HV1.out.under hb2).under hal)
      have Hb2 := Lib.hid (Hb1'.out.trans (hb2.mono Hb1'.out.size))
      have Hb3 := Lib.hid (Hb2.out.trans (hal.mono Hb2.out.size))
      have Hfar := Lib.hid (show (Value.slice ad2 n2 cap2).ownBlock ≠ some w1.heap.size from fun e => by have := hf _ e; simp at this; omega)
      have hq2 : w1.heap.size < w2.heap.size := by have := hb2.size; simp at this; omega
      have Hck := Lib.hid (check_ok _ ad2 cap2 n2 dn' fu' fa' fl' HV2.out.i.1 HV2.out.i.2.2.2 Hall.out.1)
      obtain ⟨⟨v0, v1, v2, v3⟩, _⟩ := HV2.out.d.facts
      clear hi hb2 hf hal d0 d1 d2 d3 g0 g1 g2 g3 s0 s1 s2 s3
      go_wp2_with fail
      refine (Hck.out).mono ?_
      rintro e w3 ⟨rfl, hb3⟩
      have HV3 := Lib.hid (HV2.out.under hb3)
      have HVq3 := Lib.hid (HVq.out.under hb3)
      have Hb4 := Lib.hid (Hb3.out.trans (hb3.mono Hb3.out.size))
      have hq3 : w1.heap.size < w3.heap.size := by have := hb3.size; simp at this; omega
      clear v0 v1 v2 v3 hb3
      obtain ⟨⟨v0, v1, v2, v3⟩, _⟩ := HV3.out.d.facts
      obtain ⟨⟨d0, d1, d2, d3⟩, g0, g1, g2, g3⟩ := HVq3.out.d.facts
      have hqne : w2.heap.size ≠ w1.heap.size := by omega
      have Hnew := Lib.hid (Var.put (down := dn') (fuse := fu') (fault := fa') HVq3.out.d HV3.out.i Hfar.out)
      have Hb5 := Lib.hid (below_put Hb4.out (q := w1.heap.size) Hb1.out.size (.slice ad2 n2 cap2) (.bool dn') (.int .i64 fu') (.int .i64 fa'))
      by_cases hc : code = 17
      · have hdn : dn' = true := Hdown.out hc
        subst hdn
        subst hc
        go_wp2
        go_roundw
        case rel => exact ⟨j + 1, by go_num, by omega, ⟨ad2, n2, cap2, _, fu', fa', fl', Hnew.out, Hall.out.1, Hall.out.2.1, Hall.out.2.2, fun _ => Hfar.out, Hb5.out⟩, by simp [World.setCell]; omega⟩
        case measure => simp [intOf]; omega
      · have hc' : (code == 17) = false := by simp [hc]
        go_wp2
        go_roundw
        case rel => exact ⟨j + 1, by go_num, by omega, ⟨ad2, n2, cap2, _, fu', fa', fl', Hnew.out, Hall.out.1, Hall.out.2.1, Hall.out.2.2, fun _ => Hfar.out, Hb5.out⟩, by simp [World.setCell]; omega⟩
        case measure => simp [intOf]; omega
    · have hcr : crv ⟨fs, dn, fu, fa⟩ ks = (⟨crashL ks fs, false, -1, -1⟩, 0) := crv_right HR.out
      have Hcr := Lib.hid hcr
      have Hfit := Lib.hid (fun f hf => okF_fit (HR.out.ok f hf))
      have Hrc := Lib.hid (right_crash HR.out ks)
      have Hcl := Lib.hid (crashL_len ks fs)
      obtain ⟨cs, hcs⟩ : ∃ cs, crashL ks fs = cs := ⟨_, rfl⟩
      rw [hcs] at Hcr Hrc Hcl
      have Hcs := Lib.hid hcs
      clear hcr hcs
      go_wp2_with fail
      refine (Crash_any _ ad n cap dn fu fa fs ⟨HV.out.i, Hfit.out, Hu.out.1, Hu.out.2, Ha.out.1, Ha.out.2⟩ adk nk capk ks ((Hk.out.keep Hb.out).mono Hb.out.size) Hnk.out hnk63).mono ?_
      rw [Hcr.out]
      rintro e w2 ⟨ad2, n2, cap2, rfl, hi, hb2, hf⟩
      have hal := (Below.refl w2.heap.size w2).alloc (Nat.le_refl _) (.cells (dcells (.slice ad2 n2 cap2) false (-1) (-1)) 24)
      have HV2 := Lib.hid (Var.new (down := false) (fuse := -1) (fault := -1) hi)
      have HVq := Lib.hid ((HV.out.under hb2).under hal)
      have Hb2 := Lib.hid (Hb.out.trans (hb2.mono Hb.out.size))
      have Hb3 := Lib.hid (Hb2.out.trans (hal.mono Hb2.out.size))
      have Hck := Lib.hid (check_ok _ ad2 cap2 n2 false (-1) (-1) cs HV2.out.i.1 HV2.out.i.2.2.2 Hrc.out)
      obtain rfl : n2 = n := by have h1 : n2 = cs.length := HV2.out.i.1; have h2 := HV.out.i.1; have h3 := Hcl.out; omega
      have h64 : n2 ≤ 64 := by rw [HV.out.i.1]; exact HR.out.1
      have hq2 : w1.heap.size < w2.heap.size := Nat.lt_of_lt_of_le hqlt hb2.size
      clear d0 d1 d2 d3 g0 g1 g2 g3
      obtain ⟨⟨v0, v1, v2, v3⟩, _⟩ := HV2.out.d.facts
      obtain ⟨⟨d0, d1, d2, d3⟩, _⟩ := HVq.out.d.facts
      clear hi hb2 hf hal
      go_wp2_with fail
      refine (Hck.out).mono ?_
      rintro e w3 ⟨rfl, hb3⟩
      have HV3 := Lib.hid (HV2.out.under hb3)
      have HVq3 := Lib.hid (HVq.out.under hb3)
      have Hb4 := Lib.hid (Hb3.out.trans (hb3.mono Hb3.out.size))
      clear v0 v1 v2 v3 d0 d1 d2 d3 hb3
      obtain ⟨⟨v0, v1, v2, v3⟩, _⟩ := HV3.out.d.facts
      obtain ⟨⟨d0, d1, d2, d3⟩, _⟩ := HVq3.out.d.facts
      obtain ⟨p, hp⟩ : ∃ p, w2.heap.size = p := ⟨_, rfl⟩
      rw [hp] at HV3 v0 v1 v2 v3 ⊢
      clear hp
      go_wp2
      go_loopw [79] (fun i wr2 => ∃ (l : Nat), i = .int .i64 (l : Int) ∧ l ≤ n2 ∧ Var wr2 w1.heap.size ad n2 cap dn fu fa fs ∧ Var wr2 p ad2 n2 cap2 false (-1) (-1) cs ∧ Below w.heap.size w wr2) (fun i _ => n2 - (intOf i).toNat)
      case atStart => exact ⟨0, rfl, by omega, HVq3.out, HV3.out, Hb4.out⟩
      case round =>
        obtain ⟨l, rfl, hl, hVq, hVe, hbl⟩ := hrel
        clear v0 v1 v2 v3 d0 d1 d2 d3
        obtain ⟨⟨v0, v1, v2, v3⟩, _⟩ := hVe.d.facts
        obtain ⟨⟨d0, d1, d2, d3⟩, _⟩ := hVq.d.facts
        have HE := Lib.hid hVe
        have HQ := Lib.hid hVq
        have HBl := Lib.hid hbl
        have hp1 := hVe.d.lt
        have hp2 := hVq.d.lt
        clear hVq hVe hbl
        by_cases hlt2 : l < n2
        · have hlf : l < fs.length := by rw [← HQ.out.i.1]; exact hlt2
          obtain ⟨f, hf⟩ : ∃ f, fs[l]? = some f := ⟨fs[l], by simp⟩
          have hne : fs ≠ [] := by rintro rfl; simp at hf
          obtain ⟨gb, off, rfl, _, hi⟩ := HQ.out.i.2.2.2 hne
          obtain ⟨q0, q1, q2⟩ := hi l f hf
          have hcf : cs[l]? = some (crash1 ks[l]? f) := by rw [← Hcs.out]; exact crashL_at ks fs l f hf
          have hne2 : cs ≠ [] := by rintro rfl; simp at hcf
          obtain ⟨ge, offe, rfl, _, hie⟩ := HE.out.i.2.2.2 hne2
          obtain ⟨p0, p1, p2⟩ := hie l _ hcf
          have hok := HR.out.ok f (List.mem_of_getElem? hf)
          obtain ⟨hok2, hsy⟩ := crash1_ok hok ks[l]?
          obtain ⟨b1, b2⟩ := keptS_bd hok ks[l]?
          have hnm : (crash1 ks[l]? f).name = f.name := rfl
          have hsz : ((crash1 ks[l]? f).data.size : Int) = keptS ks[l]? f := hsy.symm
          have hda : (crash1 ks[l]? f).data = f.data.extract 0 (crash1 ks[l]? f).data.size := by
            have : (crash1 ks[l]? f).data.size = (keptS ks[l]? f).toNat := by omega
            rw [this]; rfl
          obtain ⟨gd, hgd⟩ : ∃ gd, (crash1 ks[l]? f).data = gd := ⟨_, rfl⟩
          rw [hsy] at p2
          rw [hnm] at p0
          rw [hgd] at p1 p2 hsz hda
          have c1 : f.syn ≤ (gd.size : Int) := by omega
          have c2 : gd.size ≤ f.data.size := by have := hok.2.2.2; omega
          have c2' : (gd.size : Int) ≤ (f.data.size : Int) := by omega
          have c3 : ¬ (gd.size : Int) < f.syn := by omega
          have c4 : ¬ f.data.size < gd.size := by omega
          have e1 : decide ((gd.size : Int) < f.syn) = false := decide_eq_false c3
          have e2 : decide (f.data.size < gd.size) = false := decide_eq_false c4
          have e3 := str_is hda
          have e4 := str_is (rfl : f.name = f.name)
          have e5 : ((gd.size : Int) == (gd.size : Int)) = true := by simp
          have hl0 : (0 : Int) ≤ (l : Int) := by omega
          have hl1 : (l : Int) < (n2 : Int) := by omega
          have gz : (0 : Int) ≤ (gd.size : Int) := by omega
          have hal := (((Below.refl wr.heap.size wr).alloc (Nat.le_refl _) (.cells (fcells f.name f.data f.syn) 46)).alloc (by simp) (.cells (fcells f.name gd (gd.size : Int)) 46))
          have HE2 := Lib.hid (HE.out.under hal)
          have HQ2 := Lib.hid (HQ.out.under hal)
          have HB2 := Lib.hid (HBl.out.trans (hal.mono HBl.out.size))
          clear hf hcf hi hie hne hne2 hok hok2 hsy b1 b2 hnm hsz hda hgd hal
          go_wp2
          go_quiet (fail)
          go_wp2
          go_roundw
          case rel => exact ⟨l + 1, by go_num, by omega, HQ2.out.under (below_drewN (Below.refl _ _) _), HE2.out.under (below_drewN (Below.refl _ _) _), below_drewN HB2.out _⟩
          case measure => simp [intOf]; omega
        · go_wp2
          go_ret
          exact ⟨rfl, HBl.out⟩
theorem laidOut : laidOutB Try.prog = true := by kernel_rfl

set_option maxRecDepth 100000 in
theorem lifted (os : Os) (started : os.Started) (H : Type) (enc : TypeId × Value → H) :
    ReturnsInHanded {} Try.checked os 4 .any (Rows.diskSafeSpec.pre6 enc Try.prog Try.f4 Rows.diskSafeRow.domain false) (Rows.diskSafeSpec.post enc Try.prog Try.f4 false true false false) := by
  refine returnsInHanded_of_change (C := Try.checked) own started (by kernel_rfl) Try.func4
    (ChangeSpec.witness6 (enc := enc) (C := Try.checked) false ⟨#[], #[.int .i64 0, .int .i64 0, .slice none 0 0, .slice none 0 0], []⟩ 8 (by kernel_rfl) (by kernel_rfl) (by kernel_rfl) (by kernel_rfl)) ?_
  intro W base args ds gs before hval0 hW hcnd _
  have hval : ∀ (j : Nat) t v, Try.f4.params[j]? = some t → args[j]? = some v → Value.okWide Try.prog W .any base t v := hval0
  have hW' := hW
  obtain ⟨p, q, hA0, hV, rfl, hfz, hnd⟩ := hW
  have hA : DataW.TrodAll enc Try.prog W 0 (fun _ => true) true Try.f4.params.toList args.toList ds p := hA0
  rw [Try.params4] at hA hval
  obtain ⟨v0, vs0, d0, ds0, p0, q0, hargs, rfl, rfl, h0, r0⟩ := trodAll_cons hA
  obtain ⟨v1, vs1, d1, ds1, p1, q1, rfl, rfl, rfl, h1, r1⟩ := trodAll_cons r0
  obtain ⟨v2, vs2, d2, ds2, p2, q2, rfl, rfl, rfl, h2, r2⟩ := trodAll_cons r1
  obtain ⟨v3, vs3, d3, ds3, p3, q3, rfl, rfl, rfl, h3, r3⟩ := trodAll_cons r2
  obtain ⟨rfl, rfl, rfl⟩ := trodAll_nil r3
  obtain rfl : args = #[v0, v1, v2, v3] := by cases args; simp_all
  obtain ⟨rfl, rfl⟩ := trodVars_none hV
  have k0 := h0
  have lt0 : ∀ x ∈ p0, x.block < W.heap.size := by obtain ⟨m, hm⟩ := k0; exact DataW.trod_lt m _ _ _ hm
  have k1 := h1
  have lt1 : ∀ x ∈ p1, x.block < W.heap.size := by obtain ⟨m, hm⟩ := k1; exact DataW.trod_lt m _ _ _ hm
  have k2 := h2
  have lt2 : ∀ x ∈ p2, x.block < W.heap.size := by obtain ⟨m, hm⟩ := k2; exact DataW.trod_lt m _ _ _ hm
  have k3 := h3
  have lt3 : ∀ x ∈ p3, x.block < W.heap.size := by obtain ⟨m, hm⟩ := k3; exact DataW.trod_lt m _ _ _ hm
  obtain ⟨a0, rfl, rfl, rfl, w0⟩ := open_int Try.underlying3 (hval 0 3 v0 rfl rfl) h0
  obtain ⟨a1, rfl, rfl, rfl, w1⟩ := open_int Try.underlying3 (hval 1 3 v1 rfl rfl) h1
  obtain ⟨ad2, n2, cap2, ss, rfl, hn2, hS, hfs, hm63⟩ := open_steps (hval 2 44 v2 rfl rfl) h2
  obtain ⟨ad3, n3, cap3, ks, rfl, hn3, hi3, hl3⟩ := open_nums (hval 3 28 v3 rfl rfl) h3
  have b0 := bounds_i64 w0
  have b1 := bounds_i64 w1
  clear hA0 hval0
  refine (walk W a0 a1 ad2 n2 cap2 ss ad3 n3 cap3 ks b0 b1 hS hfs hn2 hm63 hi3 hn3 hl3).mono fun e W' ⟨he, bel⟩ => ?_
  subst he
  exact ⟨_, rfl, _, _, _, [], _, [], hW', trodAll_mk1 (shut_bool Try.underlying4 _), (trodAll_cons_mk (shut_int Try.underlying3 w0) (trodAll_cons_mk (shut_int Try.underlying3 w1) (trodAll_cons_mk (Below.trod laidOut (by kernel_rfl) (of_decide_eq_true (by kernel_rfl)) k2 bel lt2) (trodAll_cons_mk (Below.trod laidOut (by kernel_rfl) (of_decide_eq_true (by kernel_rfl)) k3 bel lt3) trodAll_mk0)))), rfl, bel.frame _, fun h => by cases h⟩

theorem over : Rows.diskSafeRow.holds Try.pinned (OpenSpec.ofChange Rows.diskSafeSpec) :=
  OpenClaim.holds_of_wide 4 Try.f4 rfl rfl rfl rfl rfl rfl rfl ⟨rfl, rfl, rfl, rfl, rfl⟩ rfl rfl rfl rfl rfl (by kernel_rfl) Try.func4 (by kernel_rfl)
    (of_decide_eq_true (by kernel_rfl)) (by unfold Func.isWrapper; rw [if_neg (by decide +kernel)]; exact ⟨rfl, rfl⟩)
    (fun os started H enc _ => lifted os started H enc)

theorem proved : Rows.DiskSafeSaid := over
#print axioms proved
end Go.Proofs.Ytcefhcailhediaa.diskSafe
