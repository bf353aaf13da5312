/- THE WALKS OVER crash, Crash. -/
import Derived.Test.YtkhmdofeonlnpaaGreatDoorGaf
import Derived.BigRegion
namespace Go.Proofs.YtkhmdofeonlnpaaGreatDoor
open Go.RowKit
set_option maxRecDepth 100000
set_option linter.unusedVariables false
set_option linter.unusedSimpArgs false

/-- a file behind a crash: kp: how many of its unsynced bytes are kept -/
def keptS (kp : Option Int) (f : F) : Int := match kp with
  | some k => if 0 < k then f.syn + min k ((f.data.size : Int) - f.syn) else f.syn
  | none => f.syn
def crash1 (kp : Option Int) (f : F) : F := ⟨f.name, f.data.extract 0 (keptS kp f).toNat, keptS kp f⟩
def crashL : List Int → List F → List F
  | _, [] => []
  | [], f :: fs => crash1 none f :: crashL [] fs
  | k :: ks, f :: fs => crash1 (some k) f :: crashL ks fs
theorem crashL_at : ∀ (ks : List Int) (fs : List F) (i : Nat) (f : F), fs[i]? = some f → (crashL ks fs)[i]? = some (crash1 ks[i]? f)
  | ks, [], i, f, h => by simp at h
  | [], x :: fs, 0, f, h => by simp at h; subst h; rfl
  | k :: ks, x :: fs, 0, f, h => by simp at h; subst h; rfl
  | [], x :: fs, i + 1, f, h => by
    have := crashL_at [] fs i f (by simpa using h)
    simpa [crashL] using this
  | k :: ks, x :: fs, i + 1, f, h => by
    have := crashL_at ks fs i f (by simpa using h)
    simpa [crashL] using this
theorem crashL_len : ∀ (ks : List Int) (fs : List F), (crashL ks fs).length = fs.length
  | ks, [] => by cases ks <;> rfl
  | [], x :: fs => by simp [crashL, crashL_len [] fs]
  | k :: ks, x :: fs => by simp [crashL, crashL_len ks fs]
/-- the first k files are done -/
def part (ks : List Int) (fs : List F) (k : Nat) : List F := (crashL ks fs).take k ++ fs.drop k
theorem part_zero (ks : List Int) (fs : List F) : part ks fs 0 = fs := by simp [part]
theorem part_all (ks : List Int) (fs : List F) : part ks fs fs.length = crashL ks fs := by
  unfold part; rw [List.drop_length, List.append_nil, List.take_of_length_le (by rw [crashL_len]; exact Nat.le_refl _)]
theorem part_len (ks : List Int) (fs : List F) (k : Nat) (h : k ≤ fs.length) : (part ks fs k).length = fs.length := by
  unfold part; rw [List.length_append, List.length_take, List.length_drop, crashL_len]; omega
theorem part_at (ks : List Int) (fs : List F) (k : Nat) (f : F) (h : fs[k]? = some f) : (part ks fs k)[k]? = some f := by
  have hlt := (List.getElem?_eq_some_iff.1 h).1
  unfold part
  rw [List.getElem?_append_right (by rw [List.length_take, crashL_len]; omega), List.length_take, crashL_len, List.getElem?_drop]
  rw [show k + (k - min k fs.length) = k by omega]; exact h
theorem part_succ (ks : List Int) (fs : List F) (k : Nat) (f : F) (h : fs[k]? = some f) : (part ks fs k).set k (crash1 ks[k]? f) = part ks fs (k + 1) := by
  have hlt := (List.getElem?_eq_some_iff.1 h).1
  have hc := crashL_at ks fs k f h
  have hl : ((crashL ks fs).take k).length = k := by rw [List.length_take, crashL_len]; omega
  unfold part
  rw [List.set_append, if_neg (by omega), hl, Nat.sub_self, List.drop_eq_getElem_cons hlt, List.set_cons_zero]
  rw [List.take_add_one, hc]
  simp

/-- at ad lie the numbers ks -/
def Ints (w : World) (B : Nat) (ad : Option Addr) (ks : List Int) : Prop :=
  (∀ k ∈ ks, -9223372036854775808 ≤ k ∧ k ≤ 9223372036854775807) ∧ (ks ≠ [] → ∃ g off, ad = some ⟨g, off, none⟩ ∧ g < B ∧ ∀ i k, ks[i]? = some k → w.cell? ⟨g, off + i, none⟩ = some (.int .i64 k))
theorem Ints.keep {w w' : World} {B : Nat} {ad : Option Addr} {ks : List Int} (h : Ints w B ad ks) (hb : Below B w w') : Ints w' B ad ks :=
  ⟨h.1, fun hne => by obtain ⟨g, off, e, hg, hi⟩ := h.2 hne; exact ⟨g, off, e, hg, fun i k hk => (hb.cell (p := ⟨g, off + i, none⟩) hg).trans (hi i k hk)⟩⟩
theorem Ints.nil (w : World) (B : Nat) (ad : Option Addr) : Ints w B ad [] := ⟨(fun k h => by cases h), fun h => absurd rfl h⟩
theorem Ints.mono {w : World} {B B' : Nat} {ad : Option Addr} {ks : List Int} (h : Ints w B ad ks) (hb : B ≤ B') : Ints w B' ad ks :=
  ⟨h.1, fun hne => by obtain ⟨g, off, e, hg, hi⟩ := h.2 hne; exact ⟨g, off, e, Nat.lt_of_lt_of_le hg hb, hi⟩⟩

theorem keptS_bd {f : F} (h : okF f) (kp : Option Int) : f.syn ≤ keptS kp f ∧ keptS kp f ≤ (f.data.size : Int) := by
  obtain ⟨_, h1, h2, h3⟩ := h
  unfold keptS
  cases kp with
  | none => simp only; omega
  | some k =>
    simp only
    by_cases hk : 0 < k
    · rw [if_pos hk]; omega
    · rw [if_neg hk]; omega

set_option maxHeartbeats 4000000 in
theorem crash_any (w : World) (g base : Nat) (ad : Option Addr) (n cap : Nat) (down : Bool) (fuse fault : Int) (fs : List F) (adk : Option Addr) (nk capk : Nat) (ks : List Int)
    (h : Own w g base ad n cap down fuse fault fs) (hk : Ints w base adk ks) (hnk : nk = ks.length) (hnk63 : nk ≤ 9223372036854775807) :
    Calls Tryz.prog 55 #[.pointer (some ⟨g, 0, none⟩), .slice adk nk capk] w fun e w' => e = .returned (.tuple #[]) ∧ Behind base w g false (-1) (-1) (crashL ks fs) w' := by
  obtain ⟨⟨d0, d1, d2, d3⟩, f0, f1, f2, f3⟩ := h.on.d.facts
  have hlt := h.on.d.lt
  have h64 : n ≤ 64 := by rw [h.on.n]; exact h.on.r.1
  have Hn := Lib.hid h.on.n
  have HR := Lib.hid h.on.r
  have H := Lib.hid h
  have Hk := Lib.hid hk
  have Hnk := Lib.hid hnk
  have Hbg := Lib.hid h.bg
  have Hbw := Lib.hid h.bw
  clear h hk hnk
  go_enter Tryz.func55, Tryz.ntmps55
  go_wp2
  go_loopw [24] (fun i wr => ∃ (k : Nat), i = .int .i64 (k : Int) ∧ k ≤ n ∧ Dk wr g 91 (.slice ad n cap) false (-1) (-1) ∧ FRow wr base (.slice ad n cap) (part ks fs k) ∧ Below base w wr) (fun i _ => n - (intOf i).toNat)
  case atStart =>
    have h1 := ((H.out.on.d.set1 false).set2 (-1)).set3 (-1)
    refine ⟨0, rfl, by omega, h1, ?_, ?_⟩
    · rw [part_zero]
      exact (((H.out.row.set_far _ H.out.far).set_far _ H.out.far).set_far _ H.out.far)
    · exact (((Below.refl _ _).setCell (by exact Hbg.out) _).setCell (by exact Hbg.out) _).setCell (by exact Hbg.out) _
  case round =>
    obtain ⟨k, rfl, hkn, hD, hRow, hbel⟩ := hrel
    clear d0 d1 d2 d3 f0 f1 f2 f3
    obtain ⟨⟨d0, d1, d2, d3⟩, _⟩ := hD.facts
    have HD := Lib.hid hD
    have HRow := Lib.hid hRow
    have Hbel := Lib.hid hbel
    clear hD hRow hbel
    by_cases hlt2 : k < n
    · obtain ⟨f, hf⟩ : ∃ f, fs[k]? = some f := ⟨fs[k]'(by have := Hn.out; omega), by simp⟩
      have hok := HR.out.ok f (List.mem_of_getElem? hf)
      have hpl := H.out.place
      rcases hpl with ⟨_, h0, _⟩ | ⟨gb, rfl, hgb, hgg, hnc, hbgb⟩
      · omega
      · have hp := part_at ks fs k f hf
        have hps := part_succ ks fs k f hf
        obtain ⟨gb', cap', hv, hbb, hgl, _, hat, hfz, _⟩ := HRow.out.blk (by intro e; rw [e] at hp; simp at hp)
        simp only [Value.slice.injEq, Option.some.injEq, Addr.mk.injEq, and_true, true_and] at hv
        obtain ⟨rfl, hnp, rfl⟩ := hv
        clear hnp
        obtain ⟨q0, q1, q2⟩ := hat k f hp
        rw [Nat.zero_add] at q0 q1 q2
        have z1 := hfz (k * 3 + 1)
        have z2 := hfz (k * 3 + 2)
        have Hp := Lib.hid hp
        have Hps := Lib.hid hps
        have Hgbb := Lib.hid hbb
        obtain ⟨⟨_, _⟩, o1, o2, o3⟩ := hok
        have hgg' : g ≠ gb := fun e => hgg e.symm
        have hk0 : (0 : Int) ≤ (k : Int) := by omega
        have hk1 : (k : Int) < (n : Int) := by omega
        clear hp hps hat hfz hbb hf hgl
        by_cases hkn2 : k < nk
        · obtain ⟨kk, hkk⟩ : ∃ kk, ks[k]? = some kk := ⟨ks[k]'(by have := Hnk.out; omega), by simp⟩
          obtain ⟨bk, ok, rfl, hbk, hck⟩ := (Hk.out.keep Hbel.out).2 (by rintro rfl; simp at hkk)
          have kb := Hk.out.1 kk (List.mem_of_getElem? hkk)
          have qk := hck k kk hkk
          have hkk1 : (k : Int) < (nk : Int) := by omega
          have hbgk : bk ≠ gb := by have := Hgbb.out; omega
          have hbgk' : gb ≠ bk := by omega
          by_cases hpos : 0 < kk
          · by_cases hc : (f.data.size : Int) - f.syn < kk
            · have Hks := Lib.hid (show keptS ks[k]? f = (f.data.size : Int) by rw [hkk]; unfold keptS; simp only [if_pos hpos]; omega)
              have hsub : IntKind.i64.wrap ((f.data.size : Int) - f.syn) = (f.data.size : Int) - f.syn := IntWalk.i64_in _ (by omega)
              have hsum : f.syn + ((f.data.size : Int) - f.syn) = (f.data.size : Int) := by omega
              clear hck hkk hbk
              go_wp2
              go_region
              clear hsum hsub
              go_wp2
              go_region
              go_wp2
              go_roundw
              case rel =>
                refine ⟨k + 1, by go_num, by omega, ?_, ?_, ?_⟩
                · exact ((HD.out.far (gb := gb) (o := k * 3 + 2) (u := .int .i64 ((f.data.size : Int))) hgg').far hgg')
                · have h1 := (HRow.out.put2 Hp.out ((f.data.size : Int))).1
                  have hl : k < (part ks fs k).length := (List.getElem?_eq_some_iff.1 Hp.out).1
                  have h2 := (h1.put1 (i := k) (f := ⟨f.name, f.data, (f.data.size : Int)⟩) (by rw [List.getElem?_set_self hl]) (f.data.extract 0 ((f.data.size : Int) : Int).toNat)).1
                  have e : (⟨f.name, f.data.extract 0 ((f.data.size : Int) : Int).toNat, (f.data.size : Int)⟩ : F) = crash1 ks[k]? f := by unfold crash1; rw [Hks.out]
                  rw [List.set_set, e, Hps.out] at h2
                  have ex : f.data.extract 0 ((f.data.size : Int)).toNat = f.data := by simp
                  rw [ex] at h2
                  exact h2
                · exact ((((Hbel.out.setCell (p := ⟨gb, k * 3 + 2, none⟩) (by exact Hgbb.out) (.int .i64 ((f.data.size : Int)))).setCell (p := ⟨gb, k * 3 + 1, none⟩) (by exact Hgbb.out) (.string f.data)).drew).drew)
              case measure => simp [intOf]; omega
            · have Hks := Lib.hid (show keptS ks[k]? f = f.syn + kk by rw [hkk]; unfold keptS; simp only [if_pos hpos]; omega)
              have hsub : IntKind.i64.wrap ((f.data.size : Int) - f.syn) = (f.data.size : Int) - f.syn := IntWalk.i64_in _ (by omega)
              have hs0 : 0 ≤ f.syn + kk := by omega
              have hs1 : f.syn + kk ≤ (f.data.size : Int) := by omega
              clear hck hkk hbk
              go_wp2
              go_region
              clear hsub
              go_wp2
              go_region
              go_wp2
              go_roundw
              case rel =>
                refine ⟨k + 1, by go_num, by omega, ?_, ?_, ?_⟩
                · exact ((HD.out.far (gb := gb) (o := k * 3 + 2) (u := .int .i64 (f.syn + kk)) hgg').far hgg')
                · have h1 := (HRow.out.put2 Hp.out (f.syn + kk)).1
                  have hl : k < (part ks fs k).length := (List.getElem?_eq_some_iff.1 Hp.out).1
                  have h2 := (h1.put1 (i := k) (f := ⟨f.name, f.data, f.syn + kk⟩) (by rw [List.getElem?_set_self hl]) (f.data.extract 0 (f.syn + kk : Int).toNat)).1
                  have e : (⟨f.name, f.data.extract 0 (f.syn + kk : Int).toNat, f.syn + kk⟩ : F) = crash1 ks[k]? f := by unfold crash1; rw [Hks.out]
                  rw [List.set_set, e, Hps.out] at h2
                  exact h2
                · exact ((((Hbel.out.setCell (p := ⟨gb, k * 3 + 2, none⟩) (by exact Hgbb.out) (.int .i64 (f.syn + kk))).setCell (p := ⟨gb, k * 3 + 1, none⟩) (by exact Hgbb.out) (.string (f.data.extract 0 (f.syn + kk : Int).toNat))).drew).drew)
              case measure => simp [intOf]; omega
          · have Hks := Lib.hid (show keptS ks[k]? f = f.syn by rw [hkk]; unfold keptS; simp only [if_neg hpos])
            clear hck hkk hbk
            go_wp2
            go_region
            go_wp2
            go_roundw
            case rel =>
              refine ⟨k + 1, by go_num, by omega, ?_, ?_, ?_⟩
              · exact (HD.out.far hgg')
              · have h1 := (HRow.out.put1 Hp.out (f.data.extract 0 f.syn.toNat)).1
                have e : (⟨f.name, f.data.extract 0 f.syn.toNat, f.syn⟩ : F) = crash1 ks[k]? f := by unfold crash1; rw [Hks.out]
                rw [e, Hps.out] at h1
                exact h1
              · exact (Hbel.out.setCell (by exact Hgbb.out) _).drew
            case measure => simp [intOf]; omega
        · have Hks := Lib.hid (show keptS ks[k]? f = f.syn by rw [show ks[k]? = none by rw [List.getElem?_eq_none_iff]; have := Hnk.out; omega]; rfl)
          go_wp2
          go_region
          go_wp2
          go_roundw
          case rel =>
            refine ⟨k + 1, by go_num, by omega, ?_, ?_, ?_⟩
            · exact (HD.out.far hgg')
            · have h1 := (HRow.out.put1 Hp.out (f.data.extract 0 f.syn.toNat)).1
              have e : (⟨f.name, f.data.extract 0 f.syn.toNat, f.syn⟩ : F) = crash1 ks[k]? f := by unfold crash1; rw [Hks.out]
              rw [e, Hps.out] at h1
              exact h1
            · exact (Hbel.out.setCell (by exact Hgbb.out) _).drew
          case measure => simp [intOf]; omega
    · have Hfin := Lib.hid (show part ks fs k = crashL ks fs by rw [← part_all, ← Hn.out, show k = n by omega])
      go_wp2
      go_end0
      exact ⟨rfl, behind_row HD.out (by rw [← Hfin.out]; exact HRow.out) Hbel.out⟩
end Go.Proofs.YtkhmdofeonlnpaaGreatDoor

/- THE WALKS OVER checkUp, Read, Crash, and the calls of the five kinds. -/
namespace Go.Proofs.YtkhmdofeonlnpaaGreatDoor
open Go.RowKit
set_option maxRecDepth 100000
set_option linter.unusedVariables false
set_option linter.unusedSimpArgs false
attribute [local go_sem] run_store_func run_store_nilf

/-- a disk that came in -/
structure DIn (w : World) (ad : Option Addr) (n cap : Nat) (fuse fault : Int) (fs : List F) : Prop where
  i : Inp w w.heap.size ad n cap fs
  fit : ∀ f ∈ fs, Fit f
  u0 : -9223372036854775808 ≤ fuse
  u1 : fuse ≤ 9223372036854775807
  f0 : -9223372036854775808 ≤ fault
  f1 : fault ≤ 9223372036854775807
theorem DIn.under {w w' : World} {ad : Option Addr} {n cap : Nat} {fuse fault : Int} {fs : List F} (h : DIn w ad n cap fuse fault fs) (hb : Below w.heap.size w w') : DIn w' ad n cap fuse fault fs := ⟨h.i.under hb, h.fit, h.u0, h.u1, h.f0, h.f1⟩
open Classical in
noncomputable def upv (d : D) : Int := if Right d.files then (if d.down = true then 17 else 0) else 6
theorem upv_no {d : D} (h : ¬ Right d.files) : upv d = 6 := by unfold upv; rw [if_neg h]
theorem upv_down {d : D} (h : Right d.files) (h' : d.down = true) : upv d = 17 := by unfold upv; rw [if_pos h, if_pos h']
theorem upv_up {d : D} (h : Right d.files) (h' : ¬ d.down = true) : upv d = 0 := by unfold upv; rw [if_pos h, if_neg h']
open Classical in
noncomputable def rdv (d : D) (b : ByteArray) : ByteArray × Int := if upv d = 0 then (match found d.files b with | some f => (f.data, 0) | none => (⟨#[]⟩, 7)) else (⟨#[]⟩, upv d)
noncomputable def crv (d : D) (ks : List Int) : D × Int := open Classical in if Right d.files then (⟨crashL ks d.files, false, -1, -1⟩, 0) else (zero, 6)

section
variable (w : World) (ad : Option Addr) (n cap : Nat) (down : Bool) (fuse fault : Int) (fs : List F) (k : Int) (nm dt : ByteArray) (z : Int)
/-- Do -/
theorem DoN_any (h : DIn w ad n cap fuse fault fs) (hn : nm.size ≤ 9223372036854775807) (hd : dt.size ≤ 9223372036854775807) :
    Calls Tryz.prog 117 #[.agg (dcells (.slice ad n cap) down fuse fault), .agg (scells k nm dt z)] w fun e w' => DPostN w (doo ⟨fs, down, fuse, fault⟩ ⟨k, nm, dt, z⟩) e w' := by
  unfold doo
  by_cases hR : Right fs
  · rw [if_pos hR]
    by_cases hk : 1 ≤ k ∧ k ≤ 5
    · rw [if_pos hk]
      have hk5 : k = 1 ∨ k = 2 ∨ k = 3 ∨ k = 4 ∨ k = 5 := by omega
      rcases hk5 with rfl | rfl | rfl | rfl | rfl
      · exact do_kind w ad n cap down fuse fault fs 1 nm dt z h.i hR 184 185 183 changeOf_1 (fun g base ad n cap fs => kind1 g base ad n cap fs nm dt z hn) h.f0 h.f1 h.u0 h.u1
      · exact do_kind w ad n cap down fuse fault fs 2 nm dt z h.i hR 186 187 187 changeOf_2 (fun g base ad n cap fs => kind2 g base ad n cap fs nm dt z hd) h.f0 h.f1 h.u0 h.u1
      · exact do_kind w ad n cap down fuse fault fs 3 nm dt z h.i hR 188 189 183 changeOf_3 (fun g base ad n cap fs => kind3 g base ad n cap fs nm dt z) h.f0 h.f1 h.u0 h.u1
      · exact do_kind w ad n cap down fuse fault fs 4 nm dt z h.i hR 190 191 183 changeOf_4 (fun g base ad n cap fs => kind4 g base ad n cap fs nm dt z) h.f0 h.f1 h.u0 h.u1
      · exact do_kind w ad n cap down fuse fault fs 5 nm dt z h.i hR 188 192 183 changeOf_5 (fun g base ad n cap fs => kind5 g base ad n cap fs nm dt z) h.f0 h.f1 h.u0 h.u1
    · rw [if_neg hk]
      exact do_none w ad n cap down fuse fault fs k nm dt z h.i hR (by omega) (by omega) (by omega) (by omega) (by omega)
  · rw [if_neg hR]
    exact do_bad w ad n cap down fuse fault fs k nm dt z h.i h.fit hR

set_option maxHeartbeats 2000000 in
theorem Crash_any (h : DIn w ad n cap fuse fault fs) (adk : Option Addr) (nk capk : Nat) (ks : List Int) (hk : Ints w w.heap.size adk ks) (hnk : nk = ks.length) (hnk63 : nk ≤ 9223372036854775807) :
    Calls Tryz.prog 20 #[.agg (dcells (.slice ad n cap) down fuse fault), .slice adk nk capk] w fun e w' => DPost w (crv ⟨fs, down, fuse, fault⟩ ks) e w' := by
  have hb0 : Below w.heap.size w ((w.alloc (.cells (dcells (.slice ad n cap) down fuse fault) 24)).alloc (.cells (dcells (.slice none 0 0) false 0 0) 24)) := ((Below.refl _ w).alloc (Nat.le_refl _) _).alloc (by simp) _
  have h0 := h.under hb0
  have Hb0 := Lib.hid hb0
  have hx : ((w.alloc (.cells (dcells (.slice ad n cap) down fuse fault) 24)).alloc (.cells (dcells (.slice none 0 0) false 0 0) 24)).heap[w.heap.size]? = some (.cells (dcells (.slice ad n cap) down fuse fault) 24) := blk_alloc (blk_new w _) _
  have hq : ((w.alloc (.cells (dcells (.slice ad n cap) down fuse fault) 24)).alloc (.cells (dcells (.slice none 0 0) false 0 0) 24)).heap[w.heap.size + 1]? = some (.cells (dcells (.slice none 0 0) false 0 0) 24) := by
    have := blk_new (w.alloc (.cells (dcells (.slice ad n cap) down fuse fault) 24)) (.cells (dcells (.slice none 0 0) false 0 0) 24)
    simpa using this
  have Hx := Lib.hid hx
  have Hq := Lib.hid hq
  unfold crv
  by_cases hR : Right fs
  · rw [if_pos hR]
    have hc := check_ok _ ad cap n down fuse fault fs h0.i.1 h0.i.2.2.2 hR
    have h64 : n ≤ 64 := by rw [h.i.1]; exact hR.1
    have Hc := Lib.hid hc
    have HR := Lib.hid hR
    have H0 := Lib.hid h0
    have Hk := Lib.hid hk
    have Hnk := Lib.hid hnk
    clear hc hR h h0 hb0 hx hq hk hnk
    go_enter Tryz.func20, Tryz.ntmps20
    go_wp2_with fail
    refine (Hc.out).mono ?_
    rintro e w1 ⟨rfl, hb⟩
    have hX1 := (hb.block _ (Array.getElem?_eq_some_iff.1 Hx.out).1).trans Hx.out
    have hQ1 := (hb.block _ (Array.getElem?_eq_some_iff.1 Hq.out).1).trans Hq.out
    obtain ⟨x0, x1, x2, x3⟩ := box4 hX1
    have HQ1 := Lib.hid hQ1
    have Hb1 := Lib.hid (Hb0.out.trans (hb.mono Hb0.out.size))
    have hbg := begin_any w1 ad cap n down fuse fault fs (H0.out.under hb).i (by omega)
    have Hbg := Lib.hid hbg
    have hq1 := (Array.getElem?_eq_some_iff.1 hQ1).1
    have Hq1 := Lib.hid hq1
    clear hb hX1 hQ1 hbg hq1
    go_wp2_with fail
    refine (Hbg.out).mono ?_
    rintro e w2 ⟨g, v, rfl, hD, hr, hfar, hg, hb⟩
    obtain ⟨ad1, cap1, hv, hi2⟩ := Inp.of_row hr
    subst hv
    have hO : Own w2 g w1.heap.size ad1 fs.length cap1 down fuse fault fs := ⟨⟨hD, rfl, hi2.2.2.2, HR.out⟩, hr, hfar, hb.size, hg⟩
    have Hb2 := Lib.hid (Hb1.out.trans (hb.mono Hb1.out.size))
    have HQ2 := Lib.hid ((hb.block _ Hq1.out).trans HQ1.out)
    have hcr := crash_any w2 g w1.heap.size ad1 fs.length cap1 down fuse fault fs adk nk capk ks hO (((Hk.out.keep Hb1.out).mono Hb1.out.size).keep hb) Hnk.out hnk63
    have Hcr := Lib.hid hcr
    have Hgq := Lib.hid (show g ≠ w.heap.size + 1 by have := Hq1.out; omega)
    clear x0 x1 x2 x3 hD hr hfar hg hb hi2 hO hcr
    go_wp2_with fail
    refine (Hcr.out).mono ?_
    rintro e w3 ⟨rfl, hB⟩
    obtain ⟨ad2, n2, cap2, hD3, hi3, hb3, hf3⟩ := hB
    have hQ3 : Dk w3 (w.heap.size + 1) 24 (.slice none 0 0) false 0 0 := (hb3.block _ Hq1.out).trans HQ2.out
    have Hb3 := Lib.hid (Hb2.out.trans (hb3.mono Hb1.out.size))
    have Hin := Lib.hid (show (Value.slice ad2 n2 cap2).ownBlock ≠ some (w.heap.size + 1) from fun e => by have := (hf3 _ e).1; have := Hq1.out; omega)
    have Hi := Lib.hid hi3
    have Hfar := Lib.hid hf3
    obtain ⟨⟨d0, d1, d2, d3⟩, _⟩ := hD3.facts
    obtain ⟨⟨e0, e1, e2, e3⟩, g0, g1, g2, g3⟩ := hQ3.facts
    have HQ := Lib.hid hQ3
    have hgq := Hgq.out
    have hlt3 := hD3.lt
    have hlt4 := hQ3.lt
    clear hD3 hi3 hb3 hf3 hQ3
    go_wp2
    have hQ6 := (((HQ.out.set0 (.slice ad2 n2 cap2)).set1 false).set2 (-1)).set3 (-1)
    obtain ⟨⟨r0, r1, r2, r3⟩, _⟩ := hQ6.facts
    refine bodyPost_ret (v := .tuple #[.agg (dcells (.slice ad2 n2 cap2) false (-1) (-1)), .int .i64 0]) (by simp [results, Tryz.results20, go_sem, r0, r1, r2, r3]) rfl ?_
    have hq := Hin.out
    refine ⟨ad2, _, cap2, rfl, ?_, ?_, fun b hb => Nat.le_trans Hb1.out.size (Hfar.out b hb).1⟩
    · exact (Inp.set (Inp.set (Inp.set (Inp.set Hi.out hq) hq) hq) hq).mono (by simp [World.setCell])
    · exact (((Hb3.out.setCell (p := ⟨w.heap.size + 1, 0, none⟩) (by simp) _).setCell (p := ⟨w.heap.size + 1, 1, none⟩) (by simp) _).setCell (p := ⟨w.heap.size + 1, 2, none⟩) (by simp) _).setCell (p := ⟨w.heap.size + 1, 3, none⟩) (by simp) _
  · rw [if_neg hR]
    have hc := check_no _ ad cap n down fuse fault fs h0.i.1 h0.i.2.2.2 h.fit hR
    have Hc := Lib.hid hc
    clear hc hR h h0 hb0 hx hq hk hnk
    go_enter Tryz.func20, Tryz.ntmps20
    go_wp2_with fail
    refine (Hc.out).mono ?_
    rintro e w1 ⟨rfl, hb⟩
    have hD : Dk w1 (w.heap.size + 1) 24 (.slice none 0 0) false 0 0 := (hb.block _ (Array.getElem?_eq_some_iff.1 Hq.out).1).trans Hq.out
    obtain ⟨⟨d0, d1, d2, d3⟩, f0, f1, f2, f3⟩ := hD.facts
    have Hb := Lib.hid (Hb0.out.trans (hb.mono Hb0.out.size))
    clear hb hD
    go_wp2
    refine bodyPost_ret (v := .tuple #[.agg (dcells (.slice none 0 0) false 0 0), .int .i64 6]) (by simp [results, Tryz.results20, go_sem, d0, d1, d2, d3]) rfl ?_
    refine ⟨none, 0, 0, rfl, Inp.nil _ _, ?_, (fun b hb => by simp [Value.ownBlock] at hb)⟩
    exact (((Hb.out.setCell (p := ⟨w.heap.size + 1, 0, none⟩) (by simp) _).setCell (p := ⟨w.heap.size + 1, 1, none⟩) (by simp) _).setCell (p := ⟨w.heap.size + 1, 2, none⟩) (by simp) _).setCell (p := ⟨w.heap.size + 1, 3, none⟩) (by simp) _

end
end Go.Proofs.YtkhmdofeonlnpaaGreatDoor
