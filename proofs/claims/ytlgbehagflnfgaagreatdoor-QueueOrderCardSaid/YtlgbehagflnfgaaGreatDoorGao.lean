/- SEGMENT, MATHEMATICS: an append to a log that was appended to, and nothing else. -/
import Derived.Test.YtlgbehagflnfgaaGreatDoorGan
namespace Go.Proofs.YtlgbehagflnfgaaGreatDoor
open Go.RowKit
set_option maxRecDepth 100000
set_option linter.unusedVariables false
set_option linter.unusedSimpArgs false

theorem last_snoc {α : Type} (l : List α) (x : α) : (l ++ [x]).getLast? = some x := by simp
theorem doo3 {d : D} {m : S} (hR : Right d.files) (hd : d.down = false) (hk : 1 ≤ m.kind ∧ m.kind ≤ 5) (h0 : ref d.files m = 0) :
    (d.fault = 0 ∧ doo d m = (⟨d.files, false, d.fuse, -1⟩, 18)) ∨ (d.fault ≠ 0 ∧ d.fuse = 0 ∧ doo d m = (⟨half d.files m, true, 0, dec d.fault⟩, 17)) ∨ (d.fault ≠ 0 ∧ d.fuse ≠ 0 ∧ doo d m = (⟨eff d.files m, false, dec d.fuse, dec d.fault⟩, 0)) := by
  have e : doo d m = run d m := doo_right hR hk
  rw [e]
  unfold run
  rw [if_neg (by rw [hd]; decide), if_neg (by rw [h0]; decide)]
  by_cases c1 : d.fault = 0
  · rw [if_pos c1, hd]; exact .inl ⟨c1, rfl⟩
  · rw [if_neg c1]
    by_cases c2 : d.fuse = 0
    · rw [if_pos c2]; exact .inr (.inl ⟨c1, c2, rfl⟩)
    · rw [if_neg c2]; exact .inr (.inr ⟨c1, c2, rfl⟩)
theorem pos_last {fs0 : List F} {f : F} (hR : Right (fs0 ++ [f])) : pos (fs0 ++ [f]) f.name = fs0.length ∧ found (fs0 ++ [f]) f.name = some f := by
  have h1 : pos (fs0 ++ [f]) f.name = fs0.length := by
    refine pos_unique fs0.length (by simp) (fun i g hi hg => ?_) (fun g hg => ?_)
    · exact hR.rise fs0.length i g f hi hg (by simp)
    · simp at hg; subst hg; exact lt_irrefl _
  refine ⟨h1, ?_⟩
  unfold found
  rw [h1]
  simp
theorem eff_last2 {fs0 : List F} {f : F} (hR : Right (fs0 ++ [f])) (x : ByteArray) (hx : f.data.size + x.size ≤ 262144) : ref (fs0 ++ [f]) ⟨2, f.name, x, 0⟩ = 0 ∧ eff (fs0 ++ [f]) ⟨2, f.name, x, 0⟩ = fs0 ++ [⟨f.name, f.data ++ x, f.syn⟩] := by
  obtain ⟨h1, h2⟩ := pos_last hR
  constructor
  · unfold ref
    rw [if_neg (by first | decide | (simp only [rmS]; decide))]
    simp only [h2]
    rw [if_pos (by first | decide | (simp only [rmS]; decide)), if_neg (by omega)]
  · unfold eff
    rw [if_neg (by first | decide | (simp only [rmS]; decide))]
    simp only [h2, h1]
    rw [if_pos (by first | decide | (simp only [rmS]; decide)), List.set_append_right _ _ (Nat.le_refl _), Nat.sub_self, List.set_cons_zero]
theorem eff_last3 {fs0 : List F} {f : F} (hR : Right (fs0 ++ [f])) (x : ByteArray) : ref (fs0 ++ [f]) ⟨3, f.name, x, 0⟩ = 0 ∧ eff (fs0 ++ [f]) ⟨3, f.name, x, 0⟩ = fs0 ++ [⟨f.name, f.data, f.data.size⟩] := by
  obtain ⟨h1, h2⟩ := pos_last hR
  constructor
  · unfold ref
    rw [if_neg (by first | decide | (simp only [rmS]; decide))]
    simp only [h2]
    rw [if_neg (by first | decide | (simp only [rmS]; decide)), if_neg (by first | decide | (simp only [rmS]; decide))]
  · unfold eff
    rw [if_neg (by first | decide | (simp only [rmS]; decide))]
    simp only [h2, h1]
    rw [if_neg (by first | decide | (simp only [rmS]; decide)), if_pos (by first | decide | (simp only [rmS]; decide)), List.set_append_right _ _ (Nat.le_refl _), Nat.sub_self, List.set_cons_zero]
/-- what an append comes to -/
structure App (fs : List F) (rs : List Rec) (fuse fault size : Int) (d : ByteArray) (r : L × Int) : Prop where
  R : Right r.1.d.files
  nf : Num r.1.d.fuse
  na : Num r.1.d.fault
  sz : r.1.size = size
  fr : r.1.fr = 1
  n0 : 0 ≤ r.1.nx
  n1 : r.1.nx ≤ 4611686018427387904
  aft : Aft fs rs d r.1.d.files r.2
  ok : r.2 = 0 → ∃ h1 h2, KK r.1.d.files 1 (rs ++ [⟨1 + rs.length, d, h1, h2⟩]) ∧ r.1 = ⟨⟨r.1.d.files, false, r.1.d.fuse, r.1.d.fault⟩, size, 1, ((1 + (rs.length + 1) : Nat) : Int), false⟩
  free : r.2 = 0 → fuse = -1 → fault = -1 → r.1.d.fuse = -1 ∧ r.1.d.fault = -1
  long : 65536 < d.size → r.2 = 4
  full : d.size ≤ 65536 → fuse = -1 → fault = -1 → r.2 = 0 ∨ (r.2 = 8 ∧ fs.length = 64)
theorem add2_kk {fs1 fs : List F} {rs : List Rec} {fu fa fuse fault size : Int} {d : ByteArray} (hk : KK fs1 1 rs) {l0 : List SF} {s : SF} {fs0 : List F} (hl : filesM fs1 = l0 ++ [s]) (h0 : fs1 = fs0 ++ [s.f]) (hf0 : filesM fs0 = l0) (hd : d.size ≤ 65536)
    (hz : s.f.data.size + (16 + d.size) ≤ 262144) (nfu : Num fu) (nfa : Num fa) (hfree : fuse = -1 → fault = -1 → fu = -1 ∧ fa = -1) :
    App fs rs fuse fault size d (add2 (kl fs1 rs fu fa size) (frameB (1 + rs.length) d)) := by
  have hb := kk_bound hk
  have hlast : lastN2 fs1 = s.f.name := by
    unfold lastN2 lastM
    rw [hl, last_snoc]
  have hR0 : Right (fs0 ++ [s.f]) := by rw [← h0]; exact hk.R
  have hok := hk.R.ok s.f (by rw [h0]; simp)
  have hsy := hk.sy s.f (by rw [h0]; simp)
  have hfs := frameB_size (1 + rs.length) d
  have hsz : (s.f.data ++ frameB (1 + rs.length) d).size = s.f.data.size + (16 + d.size) := by rw [size_app, hfs]
  obtain ⟨a1, a2⟩ := eff_last2 hR0 (frameB (1 + rs.length) d) (by rw [hfs]; exact hz)
  have hR1 : Right (fs0 ++ [⟨s.f.name, s.f.data ++ frameB (1 + rs.length) d, s.f.syn⟩]) := by rw [← a2]; exact right_eff hR0 ⟨by first | decide | (simp only [rmS]; decide), by first | decide | (simp only [rmS]; decide)⟩ a1
  obtain ⟨b1, b2⟩ := eff_last3 (f := ⟨s.f.name, s.f.data ++ frameB (1 + rs.length) d, s.f.syn⟩) hR1 ⟨#[]⟩
  have hR2 : Right (fs0 ++ [⟨s.f.name, s.f.data ++ frameB (1 + rs.length) d, ((s.f.data ++ frameB (1 + rs.length) d).size : Int)⟩]) := by rw [← b2]; exact right_eff hR1 ⟨by first | decide | (simp only [rmS]; decide), by first | decide | (simp only [rmS]; decide)⟩ b1
  simp only at b1 b2
  have hAft1 : ∀ c : Int, c ≠ 0 → Aft fs rs d (fs0 ++ [⟨s.f.name, s.f.data ++ frameB (1 + rs.length) d, s.f.syn⟩]) c := fun c hc =>
    .inr ⟨fs1, fs0, l0, s, s.f.data.size, hk, hl, h0, hf0, hd, by omega, hz, by rw [hsy], .inl ⟨hc, rfl⟩⟩
  have hn1 : ((1 + rs.length : Nat) : Int) ≤ 4611686018427387904 := by omega
  have hlast' : lastN2 (fs0 ++ [s.f]) = s.f.name := by rw [← h0]; exact hlast
  unfold add2
  simp only [h0, hlast']
  rcases doo3 (d := ⟨fs0 ++ [s.f], false, fu, fa⟩) (m := ⟨2, s.f.name, frameB (1 + rs.length) d, 0⟩) hR0 rfl ⟨by first | decide | (simp only [rmS]; decide), by first | decide | (simp only [rmS]; decide)⟩ a1 with ⟨c1, e⟩ | ⟨c1, c2, e⟩ | ⟨c1, c2, e⟩
  · have e3 : doS (kl (fs0 ++ [s.f]) rs fu fa size) [⟨2, s.f.name, frameB (1 + rs.length) d, 0⟩, ⟨3, s.f.name, ⟨#[]⟩, 0⟩] = (⟨⟨fs0 ++ [s.f], false, fu, -1⟩, size, 1, ((1 + rs.length : Nat) : Int), true⟩, 18) := by
      unfold doS; rw [e]; rfl
    rw [e3, if_neg (by first | decide | (simp only [rmS]; decide))]
    exact ⟨hR0, nfu, by show Num (-1); unfold Num; omega, rfl, rfl, by show (0 : Int) ≤ ((1 + rs.length : Nat) : Int); omega, hn1, .inl ⟨by show (18 : Int) ≠ 0; decide, by show KK (fs0 ++ [s.f]) 1 rs; rw [← h0]; exact hk⟩, (fun h => by cases h), (fun h => by cases h), (fun h => by omega), fun _ h1 h2 => by have := (hfree h1 h2).2; simp only at c1; omega⟩
  · have e3 : doS (kl (fs0 ++ [s.f]) rs fu fa size) [⟨2, s.f.name, frameB (1 + rs.length) d, 0⟩, ⟨3, s.f.name, ⟨#[]⟩, 0⟩] = (⟨⟨fs0 ++ [⟨s.f.name, s.f.data ++ frameB (1 + rs.length) d, s.f.syn⟩], true, 0, dec fa⟩, size, 1, ((1 + rs.length : Nat) : Int), true⟩, 17) := by
      have hh : half (fs0 ++ [s.f]) ⟨2, s.f.name, frameB (1 + rs.length) d, 0⟩ = fs0 ++ [⟨s.f.name, s.f.data ++ frameB (1 + rs.length) d, s.f.syn⟩] := by unfold half; rw [if_pos rfl]; exact a2
      simp only [hh] at e
      unfold doS; rw [e]; rfl
    rw [e3, if_neg (by first | decide | (simp only [rmS]; decide))]
    exact ⟨hR1, by show Num 0; unfold Num; omega, num_dec nfa, rfl, rfl, by show (0 : Int) ≤ ((1 + rs.length : Nat) : Int); omega, hn1, hAft1 17 (by first | decide | (simp only [rmS]; decide)), (fun h => by cases h), (fun h => by cases h), (fun h => by omega), fun _ h1 h2 => by have := (hfree h1 h2).1; simp only at c2; omega⟩
  · simp only [a2] at e
    rcases doo3 (d := ⟨fs0 ++ [⟨s.f.name, s.f.data ++ frameB (1 + rs.length) d, s.f.syn⟩], false, dec fu, dec fa⟩) (m := ⟨3, s.f.name, ⟨#[]⟩, 0⟩) hR1 rfl ⟨by first | decide | (simp only [rmS]; decide), by first | decide | (simp only [rmS]; decide)⟩ b1 with ⟨g1, e2⟩ | ⟨g1, g2, e2⟩ | ⟨g1, g2, e2⟩
    · have e3 : doS (kl (fs0 ++ [s.f]) rs fu fa size) [⟨2, s.f.name, frameB (1 + rs.length) d, 0⟩, ⟨3, s.f.name, ⟨#[]⟩, 0⟩] = (⟨⟨fs0 ++ [⟨s.f.name, s.f.data ++ frameB (1 + rs.length) d, s.f.syn⟩], false, dec fu, -1⟩, size, 1, ((1 + rs.length : Nat) : Int), true⟩, 18) := by
        unfold doS; rw [e, if_pos rfl]; unfold doS; rw [e2]; rfl
      rw [e3, if_neg (by first | decide | (simp only [rmS]; decide))]
      exact ⟨hR1, num_dec nfu, by show Num (-1); unfold Num; omega, rfl, rfl, by show (0 : Int) ≤ ((1 + rs.length : Nat) : Int); omega, hn1, hAft1 18 (by first | decide | (simp only [rmS]; decide)), (fun h => by cases h), (fun h => by cases h), (fun h => by omega), fun _ h1 h2 => by
        have h3 := (hfree h1 h2).2
        simp only [h3] at g1
        exact absurd g1 (by first | decide | (simp only [rmS]; decide))⟩
    · have e3 : doS (kl (fs0 ++ [s.f]) rs fu fa size) [⟨2, s.f.name, frameB (1 + rs.length) d, 0⟩, ⟨3, s.f.name, ⟨#[]⟩, 0⟩] = (⟨⟨fs0 ++ [⟨s.f.name, s.f.data ++ frameB (1 + rs.length) d, s.f.syn⟩], true, 0, dec (dec fa)⟩, size, 1, ((1 + rs.length : Nat) : Int), true⟩, 17) := by
        have hh : half (fs0 ++ [⟨s.f.name, s.f.data ++ frameB (1 + rs.length) d, s.f.syn⟩]) ⟨3, s.f.name, ⟨#[]⟩, 0⟩ = fs0 ++ [⟨s.f.name, s.f.data ++ frameB (1 + rs.length) d, s.f.syn⟩] := by unfold half; exact if_neg (c := (3 : Int) = 2) (by decide)
        simp only [hh] at e2
        unfold doS; rw [e, if_pos rfl]; unfold doS; rw [e2]; rfl
      rw [e3, if_neg (by first | decide | (simp only [rmS]; decide))]
      exact ⟨hR1, by show Num 0; unfold Num; omega, num_dec (num_dec nfa), rfl, rfl, by show (0 : Int) ≤ ((1 + rs.length : Nat) : Int); omega, hn1, hAft1 17 (by first | decide | (simp only [rmS]; decide)), (fun h => by cases h), (fun h => by cases h), (fun h => by omega), fun _ h1 h2 => by
        have h3 := (hfree h1 h2).1
        simp only [h3] at g2
        exact absurd g2 (by first | decide | (simp only [rmS]; decide))⟩
    · simp only [b2] at e2
      have e3 : doS (kl (fs0 ++ [s.f]) rs fu fa size) [⟨2, s.f.name, frameB (1 + rs.length) d, 0⟩, ⟨3, s.f.name, ⟨#[]⟩, 0⟩] = (⟨⟨fs0 ++ [⟨s.f.name, s.f.data ++ frameB (1 + rs.length) d, ((s.f.data ++ frameB (1 + rs.length) d).size : Int)⟩], false, dec (dec fu), dec (dec fa)⟩, size, 1, ((1 + rs.length : Nat) : Int), false⟩, 0) := by
        unfold doS; rw [e, if_pos rfl]; unfold doS; rw [e2, if_pos rfl]; unfold doS; rfl
      rw [e3, if_pos (by rfl)]
      have hK : KK (fs0 ++ [⟨s.f.name, s.f.data ++ frameB (1 + rs.length) d, ((s.f.data ++ frameB (1 + rs.length) d).size : Int)⟩]) 1 (rs ++ [⟨1 + rs.length, d, by omega, hd⟩]) := by
        obtain ⟨_, _, t3⟩ := kk_torn hk hl h0 hf0 d hd (by omega) hz (16 + d.size) (Nat.le_refl _) _ rfl
        rcases t3 with ⟨_, t⟩ | ⟨t, _⟩ | ⟨t, _, _⟩
        · rw [frame_whole] at t
          rw [hsz]
          exact t
        · omega
        · exfalso
          have hm : s ∈ filesM fs1 := by rw [hl]; simp
          have hfm := files_last hf0 (filesM_mem hm).2.2 (f' := ⟨s.f.name, s.f.data ++ (frameB (1 + rs.length) d).extract 0 (16 + d.size), ((s.f.data.size + (16 + d.size) : Nat) : Int)⟩) rfl
          have hmore := kk_more hk hl ((frameB (1 + rs.length) d).extract 0 (16 + d.size)) ⟨s.f.name, s.f.data ++ (frameB (1 + rs.length) d).extract 0 (16 + d.size), ((s.f.data.size + (16 + d.size) : Nat) : Int)⟩ rfl rfl
          obtain ⟨_, hfr, _⟩ := kk_torn hk hl h0 hf0 d hd (by omega) hz (16 + d.size) (Nat.le_refl _) _ rfl
          unfold rdF at t
          rw [hfr, hfm, hmore, frame_whole, frames_frame (by omega) hd, hfs, if_neg (by simp [sumL])] at t
          simp at t
      refine ⟨hR2, num_dec (num_dec nfu), num_dec (num_dec nfa), rfl, rfl, ?_, ?_, ?_, fun _ => ⟨by omega, hd, hK, ?_⟩, fun _ h1 h2 => ?_, (fun h => by omega), fun _ _ _ => .inl rfl⟩
      · show (0 : Int) ≤ ((1 + rs.length : Nat) : Int) + 1
        omega
      · show ((1 + rs.length : Nat) : Int) + 1 ≤ 4611686018427387904
        omega
      · exact .inr ⟨fs1, fs0, l0, s, s.f.data.size + (16 + d.size), hk, hl, h0, hf0, hd, by omega, hz, by rw [← hsz], .inr ⟨rfl, rfl⟩⟩
      · simp only [L.mk.injEq, true_and, and_true]
        omega
      · obtain ⟨q1, q2⟩ := hfree h1 h2
        subst q1 q2
        exact ⟨rfl, rfl⟩
theorem app_kk {fs : List F} {rs : List Rec} {fuse fault size : Int} {d : ByteArray} (hk : KK fs 1 rs) (hs : 1 ≤ size ∧ size ≤ 262144) (nfu : Num fuse) (nfa : Num fault) : App fs rs fuse fault size d (appM (kl fs rs fuse fault size) d) := by
  have hb := kk_bound hk
  have hn0 : (0 : Int) ≤ ((1 + rs.length : Nat) : Int) := by omega
  have hn1 : ((1 + rs.length : Nat) : Int) ≤ 4611686018427387904 := by omega
  unfold appM
  by_cases hd : 65536 < d.size
  · rw [if_pos hd]
    exact ⟨hk.R, nfu, nfa, rfl, rfl, hn0, hn1, .inl ⟨by show (4 : Int) ≠ 0; decide, hk⟩, (fun h => by cases h), (fun h => by cases h), (fun _ => rfl), fun h => by omega⟩
  rw [if_neg hd, if_neg (by show ¬ ((1 + rs.length : Nat) : Int) = 4611686018427387904; omega)]
  have hfb : frB (kl fs rs fuse fault size) d = frameB (1 + rs.length) d := by
    unfold frB frameB
    rw [show (kl fs rs fuse fault size).nx.toNat = 1 + rs.length from Int.toNat_natCast _]
  have hfs := frameB_size (1 + rs.length) d
  unfold addM
  rw [hfb]
  by_cases hroom : roomM fs size ((16 + d.size : Nat) : Int) = true
  · have h1 : add1 (kl fs rs fuse fault size) d = (kl fs rs fuse fault size, 0) := by
      unfold add1
      rw [hfb, hfs, if_pos hroom]
    rw [h1, if_pos rfl]
    unfold roomM at hroom
    cases hl : lastM fs with
    | none => rw [hl] at hroom; cases hroom
    | some s =>
      rw [hl] at hroom
      simp only [Bool.and_eq_true, decide_eq_true_eq] at hroom
      rcases List.eq_nil_or_concat (filesM fs) with e | ⟨l0, s', e⟩
      · unfold lastM at hl; rw [e] at hl; cases hl
      · rw [List.concat_eq_append] at e
        have hss : s' = s := by
          unfold lastM at hl
          rw [e, last_snoc] at hl
          injection hl
        subst hss
        obtain ⟨fs0, g1, g2⟩ := last_at hk.lg e
        exact add2_kk hk e g1 g2 (by omega) (by omega) nfu nfa (fun a b => ⟨a, b⟩)
  · have h1 : add1 (kl fs rs fuse fault size) d = doS (kl fs rs fuse fault size) [⟨1, nameB (1 + rs.length), ⟨#[]⟩, 0⟩] := by
      unfold add1
      rw [hfb, hfs, if_neg hroom]
      rw [show (kl fs rs fuse fault size).nx.toNat = 1 + rs.length from Int.toNat_natCast _]
    have hne : ∀ l0 s, filesM fs = l0 ++ [s] → s.f.data.size ≠ 0 := fun l0 s e h0 => by
      apply hroom
      unfold roomM lastM
      rw [e, last_snoc]
      simp only [h0, Bool.and_eq_true, decide_eq_true_eq]
      omega
    obtain ⟨k1, k2, k3⟩ := kk_new hk (by omega) hne 0 ⟨#[]⟩
    rw [h1]
    by_cases h64 : fs.length = 64
    · rw [if_pos h64] at k1
      have e3 : doS (kl fs rs fuse fault size) [⟨1, nameB (1 + rs.length), ⟨#[]⟩, 0⟩] = (⟨⟨fs, false, fuse, fault⟩, size, 1, ((1 + rs.length : Nat) : Int), true⟩, 8) := by
        have e : doo ⟨fs, false, fuse, fault⟩ ⟨1, nameB (1 + rs.length), ⟨#[]⟩, 0⟩ = (⟨fs, false, fuse, fault⟩, 8) := by
          rw [doo_right hk.R ⟨by first | decide | (simp only [rmS]; decide), by first | decide | (simp only [rmS]; decide)⟩]
          unfold run
          rw [if_neg (by first | decide | (simp only [rmS]; decide))]
          simp only [k1]
          rfl
        unfold doS; rw [e]; rfl
      rw [e3, if_neg (by first | decide | (simp only [rmS]; decide))]
      exact ⟨hk.R, nfu, nfa, rfl, rfl, hn0, hn1, .inl ⟨by show (8 : Int) ≠ 0; decide, hk⟩, (fun h => by cases h), (fun h => by cases h), (fun h => by omega), fun _ _ _ => .inr ⟨rfl, h64⟩⟩
    · rw [if_neg h64] at k1
      obtain ⟨k4, k5⟩ := k3 h64
      rcases doo3 (d := ⟨fs, false, fuse, fault⟩) (m := ⟨1, nameB (1 + rs.length), ⟨#[]⟩, 0⟩) hk.R rfl ⟨by first | decide | (simp only [rmS]; decide), by first | decide | (simp only [rmS]; decide)⟩ k1 with ⟨c1, e⟩ | ⟨c1, c2, e⟩ | ⟨c1, c2, e⟩
      · have e3 : doS (kl fs rs fuse fault size) [⟨1, nameB (1 + rs.length), ⟨#[]⟩, 0⟩] = (⟨⟨fs, false, fuse, -1⟩, size, 1, ((1 + rs.length : Nat) : Int), true⟩, 18) := by
          unfold doS; rw [e]; rfl
        rw [e3, if_neg (by first | decide | (simp only [rmS]; decide))]
        exact ⟨hk.R, nfu, by show Num (-1); unfold Num; omega, rfl, rfl, hn0, hn1, .inl ⟨by show (18 : Int) ≠ 0; decide, hk⟩, (fun h => by cases h), (fun h => by cases h), (fun h => by omega), fun _ h1 h2 => by simp only at c1; omega⟩
      · have e3 : doS (kl fs rs fuse fault size) [⟨1, nameB (1 + rs.length), ⟨#[]⟩, 0⟩] = (⟨⟨fs, true, 0, dec fault⟩, size, 1, ((1 + rs.length : Nat) : Int), true⟩, 17) := by
          have hh : half fs ⟨1, nameB (1 + rs.length), ⟨#[]⟩, 0⟩ = fs := by unfold half; exact if_neg (c := (1 : Int) = 2) (by decide)
          simp only [hh] at e
          unfold doS; rw [e]; rfl
        rw [e3, if_neg (by first | decide | (simp only [rmS]; decide))]
        exact ⟨hk.R, by show Num 0; unfold Num; omega, num_dec nfa, rfl, rfl, hn0, hn1, .inl ⟨by show (17 : Int) ≠ 0; decide, hk⟩, (fun h => by cases h), (fun h => by cases h), (fun h => by omega), fun _ h1 h2 => by simp only at c2; omega⟩
      · simp only [k2] at e
        have e3 : doS (kl fs rs fuse fault size) [⟨1, nameB (1 + rs.length), ⟨#[]⟩, 0⟩] = (kl (fs ++ [⟨nameB (1 + rs.length), ⟨#[]⟩, 0⟩]) rs (dec fuse) (dec fault) size, 0) := by
          unfold doS; rw [e, if_pos rfl]; unfold doS; rfl
        rw [e3, if_pos rfl]
        obtain ⟨fs0, g1, g2⟩ := last_at k4.lg k5
        refine add2_kk k4 k5 g1 g2 (by omega) ?_ (num_dec nfu) (num_dec nfa) (fun a b => ?_)
        · show (⟨#[]⟩ : ByteArray).size + (16 + d.size) ≤ 262144
          have : (⟨#[]⟩ : ByteArray).size = 0 := rfl
          omega
        · subst a b; exact ⟨rfl, rfl⟩
end Go.Proofs.YtlgbehagflnfgaaGreatDoor

/- QUEUE, MATHEMATICS: segment's appends and crashes at any first number. -/
namespace Go.Proofs.YtlgbehagflnfgaaGreatDoor
open Go.RowKit
set_option maxRecDepth 100000
set_option linter.unusedVariables false
set_option linter.unusedSimpArgs false

theorem open_kkr {fs : List F} {fr : Nat} {rs : List Rec} {size : Int} (h : KK fs fr rs) (hs : 1 ≤ size ∧ size ≤ 262144) : openM ⟨fs, false, -1, -1⟩ size = (⟨⟨fs, false, -1, -1⟩, size, (fr : Int), ((fr + rs.length : Nat) : Int), false⟩, rs, 0) := by
  have h1 := (open_free h.R hs).1
  have h2 : mended fs = fs := by unfold mended; rw [kk_mend h]; rfl
  rw [h2, kk_rdF h, h.fm] at h1
  exact h1
/-- the log that goes on -/
abbrev klr (fs : List F) (fr : Nat) (rs : List Rec) (fuse fault size : Int) : L := ⟨⟨fs, false, fuse, fault⟩, size, (fr : Int), ((fr + rs.length : Nat) : Int), false⟩
/-- what an append leaves, for a crash -/
def AftR (fs : List F) (fr : Nat) (rs : List Rec) (d : ByteArray) (gs : List F) (c : Int) : Prop :=
  (c ≠ 0 ∧ KK gs fr rs) ∨
  (∃ (fs1 : List F) (fs0 : List F) (l0 : List SF) (s : SF) (syn : Nat), KK fs1 fr rs ∧ filesM fs1 = l0 ++ [s] ∧ fs1 = fs0 ++ [s.f] ∧ filesM fs0 = l0 ∧ d.size ≤ 65536 ∧ fr + rs.length < 4611686018427387904 ∧ s.f.data.size + (16 + d.size) ≤ 262144 ∧
    gs = fs0 ++ [⟨s.f.name, s.f.data ++ frameB (fr + rs.length) d, (syn : Int)⟩] ∧ ((c ≠ 0 ∧ syn = s.f.data.size) ∨ (c = 0 ∧ syn = s.f.data.size + (16 + d.size))))
/-- whatever a crash leaves, it is opened as the log, with the record or without -/
theorem aft_openR {fs : List F} {fr : Nat} {rs : List Rec} {d : ByteArray} {gs : List F} {c : Int} (h : AftR fs fr rs d gs c) (ks : List Int) {size : Int} (hs : 1 ≤ size ∧ size ≤ 262144) :
    ∃ fs2 rs2, KK fs2 fr rs2 ∧ openM ⟨crashL ks gs, false, -1, -1⟩ size = (klr fs2 fr rs2 (-1) (-1) size, rs2, 0) ∧ ((c ≠ 0 ∧ rs2 = rs) ∨ ∃ h1 h2, rs2 = rs ++ [⟨fr + rs.length, d, h1, h2⟩]) := by
  rcases h with ⟨hc, hk⟩ | ⟨fs1, fs0, l0, s, syn, hk, hl, h0, hf0, hd, hn, hz, rfl, hcs⟩
  · rw [kk_crash hk]
    exact ⟨gs, rs, hk, open_kkr hk hs, .inl ⟨hc, rfl⟩⟩
  · have hsyn0 : ∀ f ∈ fs0, f.syn = (f.data.size : Int) := fun f hf => hk.sy f (by rw [h0]; exact List.mem_append_left _ hf)
    have hR0 : Right fs0 := by
      have h1 := right_rem hk.R fs0.length
      rw [h0] at h1
      simpa using h1
    obtain ⟨kp, hcr⟩ := crashL_snoc ks fs0 ⟨s.f.name, s.f.data ++ frameB (fr + rs.length) d, (syn : Int)⟩
    rw [hcr, crash_synced hR0 hsyn0]
    have hsz : (s.f.data ++ frameB (fr + rs.length) d).size = s.f.data.size + (16 + d.size) := by rw [size_app, frameB_size]
    have hok := hk.R.ok s.f (by rw [h0]; simp)
    have hkb := keptS_bd (f := ⟨s.f.name, s.f.data ++ frameB (fr + rs.length) d, (syn : Int)⟩) ⟨hok.1, by show (s.f.data ++ _).size ≤ _; rw [hsz]; omega, by show (0 : Int) ≤ (syn : Int); omega, by show (syn : Int) ≤ ((s.f.data ++ _).size : Int); rw [hsz]; omega⟩ kp
    obtain ⟨k, hk1⟩ : ∃ k : Nat, keptS kp ⟨s.f.name, s.f.data ++ frameB (fr + rs.length) d, (syn : Int)⟩ = ((s.f.data.size + k : Nat) : Int) := by
      simp only [hsz] at hkb
      refine ⟨(keptS kp ⟨s.f.name, s.f.data ++ frameB (fr + rs.length) d, (syn : Int)⟩).toNat - s.f.data.size, ?_⟩
      omega
    have hkb2 : syn ≤ s.f.data.size + k ∧ k ≤ 16 + d.size := by
      rw [hk1] at hkb
      simp only [hsz] at hkb
      omega
    have hcr1 : crash1 kp ⟨s.f.name, s.f.data ++ frameB (fr + rs.length) d, (syn : Int)⟩ = ⟨s.f.name, s.f.data ++ (frameB (fr + rs.length) d).extract 0 k, ((s.f.data.size + k : Nat) : Int)⟩ := by
      unfold crash1
      rw [hk1]
      simp only [Int.toNat_natCast]
      congr 1
      apply bs_inj
      rw [bs_ext, bs_app, bs_app, bs_ext, List.drop_zero, List.drop_zero, ← bs_len, List.take_length_add_append]
    rw [hcr1]
    obtain ⟨hRt, hfr, h3⟩ := kk_torn hk hl h0 hf0 d hd hn hz k hkb2.2 _ rfl
    rcases h3 with ⟨e1, hK⟩ | ⟨e1, e2⟩ | ⟨e1, e2, e3⟩
    · exact ⟨_, _, hK, by have := open_kkr hK hs; exact this, .inr ⟨hn, hd, rfl⟩⟩
    · rw [e2]
      refine ⟨fs1, rs, hk, open_kkr hk hs, .inl ⟨?_, rfl⟩⟩
      rcases hcs with ⟨a, _⟩ | ⟨a, b⟩
      · exact a
      · omega
    · obtain ⟨o1, _⟩ := open_free hRt hs
      have hmd : mendM (fs0 ++ [⟨s.f.name, s.f.data ++ (frameB (fr + rs.length) d).extract 0 k, ((s.f.data.size + k : Nat) : Int)⟩]) = [⟨4, s.f.name, ⟨#[]⟩, (s.f.data.size : Nat)⟩] := by unfold mendM; rw [e1]; rfl
      have hme : mended (fs0 ++ [⟨s.f.name, s.f.data ++ (frameB (fr + rs.length) d).extract 0 k, ((s.f.data.size + k : Nat) : Int)⟩]) = fs1 := by unfold mended; rw [hmd]; exact e3
      rw [hme, e1, hfr] at o1
      refine ⟨fs1, rs, hk, o1, .inl ⟨?_, rfl⟩⟩
      rcases hcs with ⟨a, _⟩ | ⟨a, b⟩
      · exact a
      · intro _
        have hks : k = 16 + d.size := by omega
        have hfull : framesL ((frameB (fr + rs.length) d).extract 0 k) (fr + rs.length) = [⟨fr + rs.length, d, hn, hd⟩] := by rw [hks, frame_whole, frames_frame hn hd]
        have hmore := kk_more hk hl ((frameB (fr + rs.length) d).extract 0 k) ⟨s.f.name, s.f.data ++ (frameB (fr + rs.length) d).extract 0 k, ((s.f.data.size + k : Nat) : Int)⟩ rfl rfl
        have hm : s ∈ filesM fs1 := by rw [hl]; simp
        have hfm := files_last hf0 (filesM_mem hm).2.2 (f' := ⟨s.f.name, s.f.data ++ (frameB (fr + rs.length) d).extract 0 k, ((s.f.data.size + k : Nat) : Int)⟩) rfl
        unfold rdF at e1
        rw [hfr, hfm, hmore, hfull, ByteArray.size_extract, frameB_size, if_neg (by simp [sumL]; omega)] at e1
        simp at e1
/-- what an append comes to -/
structure AppR (fs : List F) (fr : Nat) (rs : List Rec) (fuse fault size : Int) (d : ByteArray) (r : L × Int) : Prop where
  R : Right r.1.d.files
  nf : Num r.1.d.fuse
  na : Num r.1.d.fault
  sz : r.1.size = size
  frr : r.1.fr = (fr : Int)
  n0 : 0 ≤ r.1.nx
  n1 : r.1.nx ≤ 4611686018427387904
  aft : AftR fs fr rs d r.1.d.files r.2
  ok : r.2 = 0 → ∃ h1 h2, KK r.1.d.files fr (rs ++ [⟨fr + rs.length, d, h1, h2⟩]) ∧ r.1 = ⟨⟨r.1.d.files, false, r.1.d.fuse, r.1.d.fault⟩, size, (fr : Int), ((fr + (rs.length + 1) : Nat) : Int), false⟩
  free : r.2 = 0 → fuse = -1 → fault = -1 → r.1.d.fuse = -1 ∧ r.1.d.fault = -1
  long : 65536 < d.size → r.2 = 4
  len : r.1.d.files.length ≤ fs.length + 1
  full : d.size ≤ 65536 → fuse = -1 → fault = -1 → r.2 = 0 ∨ (r.2 = 8 ∧ fs.length = 64)
theorem add2_kkr {fs1 fs : List F} {fr : Nat} {rs : List Rec} {fu fa fuse fault size : Int} {d : ByteArray} (hB : fr + rs.length < 4611686018427387904) (hlen : fs1.length ≤ fs.length + 1) (hk : KK fs1 fr rs) {l0 : List SF} {s : SF} {fs0 : List F} (hl : filesM fs1 = l0 ++ [s]) (h0 : fs1 = fs0 ++ [s.f]) (hf0 : filesM fs0 = l0) (hd : d.size ≤ 65536)
    (hz : s.f.data.size + (16 + d.size) ≤ 262144) (nfu : Num fu) (nfa : Num fa) (hfree : fuse = -1 → fault = -1 → fu = -1 ∧ fa = -1) :
    AppR fs fr rs fuse fault size d (add2 (klr fs1 fr rs fu fa size) (frameB (fr + rs.length) d)) := by
  have hl1 : fs0.length + 1 ≤ fs.length + 1 := by rw [h0] at hlen; simpa using hlen
  have hlast : lastN2 fs1 = s.f.name := by
    unfold lastN2 lastM
    rw [hl, last_snoc]
  have hR0 : Right (fs0 ++ [s.f]) := by rw [← h0]; exact hk.R
  have hok := hk.R.ok s.f (by rw [h0]; simp)
  have hsy := hk.sy s.f (by rw [h0]; simp)
  have hfs := frameB_size (fr + rs.length) d
  have hsz : (s.f.data ++ frameB (fr + rs.length) d).size = s.f.data.size + (16 + d.size) := by rw [size_app, hfs]
  obtain ⟨a1, a2⟩ := eff_last2 hR0 (frameB (fr + rs.length) d) (by rw [hfs]; exact hz)
  have hR1 : Right (fs0 ++ [⟨s.f.name, s.f.data ++ frameB (fr + rs.length) d, s.f.syn⟩]) := by rw [← a2]; exact right_eff hR0 ⟨by first | decide | (simp only [rmS]; decide), by first | decide | (simp only [rmS]; decide)⟩ a1
  obtain ⟨b1, b2⟩ := eff_last3 (f := ⟨s.f.name, s.f.data ++ frameB (fr + rs.length) d, s.f.syn⟩) hR1 ⟨#[]⟩
  have hR2 : Right (fs0 ++ [⟨s.f.name, s.f.data ++ frameB (fr + rs.length) d, ((s.f.data ++ frameB (fr + rs.length) d).size : Int)⟩]) := by rw [← b2]; exact right_eff hR1 ⟨by first | decide | (simp only [rmS]; decide), by first | decide | (simp only [rmS]; decide)⟩ b1
  simp only at b1 b2
  have hAft1 : ∀ c : Int, c ≠ 0 → AftR fs fr rs d (fs0 ++ [⟨s.f.name, s.f.data ++ frameB (fr + rs.length) d, s.f.syn⟩]) c := fun c hc =>
    .inr ⟨fs1, fs0, l0, s, s.f.data.size, hk, hl, h0, hf0, hd, by omega, hz, by rw [hsy], .inl ⟨hc, rfl⟩⟩
  have hn1 : ((fr + rs.length : Nat) : Int) ≤ 4611686018427387904 := by omega
  have hlast' : lastN2 (fs0 ++ [s.f]) = s.f.name := by rw [← h0]; exact hlast
  unfold add2
  simp only [h0, hlast']
  rcases doo3 (d := ⟨fs0 ++ [s.f], false, fu, fa⟩) (m := ⟨2, s.f.name, frameB (fr + rs.length) d, 0⟩) hR0 rfl ⟨by first | decide | (simp only [rmS]; decide), by first | decide | (simp only [rmS]; decide)⟩ a1 with ⟨c1, e⟩ | ⟨c1, c2, e⟩ | ⟨c1, c2, e⟩
  · have e3 : doS (klr (fs0 ++ [s.f]) fr rs fu fa size) [⟨2, s.f.name, frameB (fr + rs.length) d, 0⟩, ⟨3, s.f.name, ⟨#[]⟩, 0⟩] = (⟨⟨fs0 ++ [s.f], false, fu, -1⟩, size, (fr : Int), ((fr + rs.length : Nat) : Int), true⟩, 18) := by
      unfold doS; rw [e]; rfl
    rw [e3, if_neg (by first | decide | (simp only [rmS]; decide))]
    exact ⟨hR0, nfu, by show Num (-1); unfold Num; omega, rfl, rfl, by show (0 : Int) ≤ ((fr + rs.length : Nat) : Int); omega, hn1, .inl ⟨by show (18 : Int) ≠ 0; decide, by show KK (fs0 ++ [s.f]) fr rs; rw [← h0]; exact hk⟩, (fun h => by cases h), (fun h => by cases h), (fun h => by omega), (by first | (simp only [List.length_append, List.length_singleton]; done) | (simp only [List.length_append, List.length_singleton]; omega) | omega), fun _ h1 h2 => by have := (hfree h1 h2).2; simp only at c1; omega⟩
  · have e3 : doS (klr (fs0 ++ [s.f]) fr rs fu fa size) [⟨2, s.f.name, frameB (fr + rs.length) d, 0⟩, ⟨3, s.f.name, ⟨#[]⟩, 0⟩] = (⟨⟨fs0 ++ [⟨s.f.name, s.f.data ++ frameB (fr + rs.length) d, s.f.syn⟩], true, 0, dec fa⟩, size, (fr : Int), ((fr + rs.length : Nat) : Int), true⟩, 17) := by
      have hh : half (fs0 ++ [s.f]) ⟨2, s.f.name, frameB (fr + rs.length) d, 0⟩ = fs0 ++ [⟨s.f.name, s.f.data ++ frameB (fr + rs.length) d, s.f.syn⟩] := by unfold half; rw [if_pos rfl]; exact a2
      simp only [hh] at e
      unfold doS; rw [e]; rfl
    rw [e3, if_neg (by first | decide | (simp only [rmS]; decide))]
    exact ⟨hR1, by show Num 0; unfold Num; omega, num_dec nfa, rfl, rfl, by show (0 : Int) ≤ ((fr + rs.length : Nat) : Int); omega, hn1, hAft1 17 (by first | decide | (simp only [rmS]; decide)), (fun h => by cases h), (fun h => by cases h), (fun h => by omega), (by first | (simp only [List.length_append, List.length_singleton]; done) | (simp only [List.length_append, List.length_singleton]; omega) | omega), fun _ h1 h2 => by have := (hfree h1 h2).1; simp only at c2; omega⟩
  · simp only [a2] at e
    rcases doo3 (d := ⟨fs0 ++ [⟨s.f.name, s.f.data ++ frameB (fr + rs.length) d, s.f.syn⟩], false, dec fu, dec fa⟩) (m := ⟨3, s.f.name, ⟨#[]⟩, 0⟩) hR1 rfl ⟨by first | decide | (simp only [rmS]; decide), by first | decide | (simp only [rmS]; decide)⟩ b1 with ⟨g1, e2⟩ | ⟨g1, g2, e2⟩ | ⟨g1, g2, e2⟩
    · have e3 : doS (klr (fs0 ++ [s.f]) fr rs fu fa size) [⟨2, s.f.name, frameB (fr + rs.length) d, 0⟩, ⟨3, s.f.name, ⟨#[]⟩, 0⟩] = (⟨⟨fs0 ++ [⟨s.f.name, s.f.data ++ frameB (fr + rs.length) d, s.f.syn⟩], false, dec fu, -1⟩, size, (fr : Int), ((fr + rs.length : Nat) : Int), true⟩, 18) := by
        unfold doS; rw [e, if_pos rfl]; unfold doS; rw [e2]; rfl
      rw [e3, if_neg (by first | decide | (simp only [rmS]; decide))]
      exact ⟨hR1, num_dec nfu, by show Num (-1); unfold Num; omega, rfl, rfl, by show (0 : Int) ≤ ((fr + rs.length : Nat) : Int); omega, hn1, hAft1 18 (by first | decide | (simp only [rmS]; decide)), (fun h => by cases h), (fun h => by cases h), (fun h => by omega), (by first | (simp only [List.length_append, List.length_singleton]; done) | (simp only [List.length_append, List.length_singleton]; omega) | omega), fun _ h1 h2 => by
        have h3 := (hfree h1 h2).2
        simp only [h3] at g1
        exact absurd g1 (by first | decide | (simp only [rmS]; decide))⟩
    · have e3 : doS (klr (fs0 ++ [s.f]) fr rs fu fa size) [⟨2, s.f.name, frameB (fr + rs.length) d, 0⟩, ⟨3, s.f.name, ⟨#[]⟩, 0⟩] = (⟨⟨fs0 ++ [⟨s.f.name, s.f.data ++ frameB (fr + rs.length) d, s.f.syn⟩], true, 0, dec (dec fa)⟩, size, (fr : Int), ((fr + rs.length : Nat) : Int), true⟩, 17) := by
        have hh : half (fs0 ++ [⟨s.f.name, s.f.data ++ frameB (fr + rs.length) d, s.f.syn⟩]) ⟨3, s.f.name, ⟨#[]⟩, 0⟩ = fs0 ++ [⟨s.f.name, s.f.data ++ frameB (fr + rs.length) d, s.f.syn⟩] := by unfold half; exact if_neg (c := (3 : Int) = 2) (by decide)
        simp only [hh] at e2
        unfold doS; rw [e, if_pos rfl]; unfold doS; rw [e2]; rfl
      rw [e3, if_neg (by first | decide | (simp only [rmS]; decide))]
      exact ⟨hR1, by show Num 0; unfold Num; omega, num_dec (num_dec nfa), rfl, rfl, by show (0 : Int) ≤ ((fr + rs.length : Nat) : Int); omega, hn1, hAft1 17 (by first | decide | (simp only [rmS]; decide)), (fun h => by cases h), (fun h => by cases h), (fun h => by omega), (by first | (simp only [List.length_append, List.length_singleton]; done) | (simp only [List.length_append, List.length_singleton]; omega) | omega), fun _ h1 h2 => by
        have h3 := (hfree h1 h2).1
        simp only [h3] at g2
        exact absurd g2 (by first | decide | (simp only [rmS]; decide))⟩
    · simp only [b2] at e2
      have e3 : doS (klr (fs0 ++ [s.f]) fr rs fu fa size) [⟨2, s.f.name, frameB (fr + rs.length) d, 0⟩, ⟨3, s.f.name, ⟨#[]⟩, 0⟩] = (⟨⟨fs0 ++ [⟨s.f.name, s.f.data ++ frameB (fr + rs.length) d, ((s.f.data ++ frameB (fr + rs.length) d).size : Int)⟩], false, dec (dec fu), dec (dec fa)⟩, size, (fr : Int), ((fr + rs.length : Nat) : Int), false⟩, 0) := by
        unfold doS; rw [e, if_pos rfl]; unfold doS; rw [e2, if_pos rfl]; unfold doS; rfl
      rw [e3, if_pos (by rfl)]
      have hK : KK (fs0 ++ [⟨s.f.name, s.f.data ++ frameB (fr + rs.length) d, ((s.f.data ++ frameB (fr + rs.length) d).size : Int)⟩]) fr (rs ++ [⟨fr + rs.length, d, by omega, hd⟩]) := by
        obtain ⟨_, _, t3⟩ := kk_torn hk hl h0 hf0 d hd (by omega) hz (16 + d.size) (Nat.le_refl _) _ rfl
        rcases t3 with ⟨_, t⟩ | ⟨t, _⟩ | ⟨t, _, _⟩
        · rw [frame_whole] at t
          rw [hsz]
          exact t
        · omega
        · exfalso
          have hm : s ∈ filesM fs1 := by rw [hl]; simp
          have hfm := files_last hf0 (filesM_mem hm).2.2 (f' := ⟨s.f.name, s.f.data ++ (frameB (fr + rs.length) d).extract 0 (16 + d.size), ((s.f.data.size + (16 + d.size) : Nat) : Int)⟩) rfl
          have hmore := kk_more hk hl ((frameB (fr + rs.length) d).extract 0 (16 + d.size)) ⟨s.f.name, s.f.data ++ (frameB (fr + rs.length) d).extract 0 (16 + d.size), ((s.f.data.size + (16 + d.size) : Nat) : Int)⟩ rfl rfl
          obtain ⟨_, hfr, _⟩ := kk_torn hk hl h0 hf0 d hd (by omega) hz (16 + d.size) (Nat.le_refl _) _ rfl
          unfold rdF at t
          rw [hfr, hfm, hmore, frame_whole, frames_frame (by omega) hd, hfs, if_neg (by simp [sumL])] at t
          simp at t
      refine ⟨hR2, num_dec (num_dec nfu), num_dec (num_dec nfa), rfl, rfl, ?_, ?_, ?_, fun _ => ⟨by omega, hd, hK, ?_⟩, fun _ h1 h2 => ?_, (fun h => by omega), (by first | (simp only [List.length_append, List.length_singleton]; done) | (simp only [List.length_append, List.length_singleton]; omega) | omega), fun _ _ _ => .inl rfl⟩
      · show (0 : Int) ≤ ((fr + rs.length : Nat) : Int) + 1
        omega
      · show ((fr + rs.length : Nat) : Int) + 1 ≤ 4611686018427387904
        omega
      · exact .inr ⟨fs1, fs0, l0, s, s.f.data.size + (16 + d.size), hk, hl, h0, hf0, hd, by omega, hz, by rw [← hsz], .inr ⟨rfl, rfl⟩⟩
      · simp only [L.mk.injEq, true_and, and_true]
        omega
      · obtain ⟨q1, q2⟩ := hfree h1 h2
        subst q1 q2
        exact ⟨rfl, rfl⟩
theorem app_kkr {fs : List F} {fr : Nat} {rs : List Rec} {fuse fault size : Int} {d : ByteArray} (hB : fr + rs.length < 4611686018427387904) (hk : KK fs fr rs) (hs : 1 ≤ size ∧ size ≤ 262144) (nfu : Num fuse) (nfa : Num fault) : AppR fs fr rs fuse fault size d (appM (klr fs fr rs fuse fault size) d) := by
  have hn0 : (0 : Int) ≤ ((fr + rs.length : Nat) : Int) := by omega
  have hn1 : ((fr + rs.length : Nat) : Int) ≤ 4611686018427387904 := by omega
  unfold appM
  by_cases hd : 65536 < d.size
  · rw [if_pos hd]
    exact ⟨hk.R, nfu, nfa, rfl, rfl, hn0, hn1, .inl ⟨by show (4 : Int) ≠ 0; decide, hk⟩, (fun h => by cases h), (fun h => by cases h), (fun _ => rfl), (by first | (simp only [List.length_append, List.length_singleton]; done) | (simp only [List.length_append, List.length_singleton]; omega) | omega), fun h => by omega⟩
  rw [if_neg hd, if_neg (by show ¬ ((fr + rs.length : Nat) : Int) = 4611686018427387904; omega)]
  have hfb : frB (klr fs fr rs fuse fault size) d = frameB (fr + rs.length) d := by
    unfold frB frameB
    rw [show (klr fs fr rs fuse fault size).nx.toNat = fr + rs.length from Int.toNat_natCast _]
  have hfs := frameB_size (fr + rs.length) d
  unfold addM
  rw [hfb]
  by_cases hroom : roomM fs size ((16 + d.size : Nat) : Int) = true
  · have h1 : add1 (klr fs fr rs fuse fault size) d = (klr fs fr rs fuse fault size, 0) := by
      unfold add1
      rw [hfb, hfs, if_pos hroom]
    rw [h1, if_pos rfl]
    unfold roomM at hroom
    cases hl : lastM fs with
    | none => rw [hl] at hroom; cases hroom
    | some s =>
      rw [hl] at hroom
      simp only [Bool.and_eq_true, decide_eq_true_eq] at hroom
      rcases List.eq_nil_or_concat (filesM fs) with e | ⟨l0, s', e⟩
      · unfold lastM at hl; rw [e] at hl; cases hl
      · rw [List.concat_eq_append] at e
        have hss : s' = s := by
          unfold lastM at hl
          rw [e, last_snoc] at hl
          injection hl
        subst hss
        obtain ⟨fs0, g1, g2⟩ := last_at hk.lg e
        exact add2_kkr hB (by omega) hk e g1 g2 (by omega) (by omega) nfu nfa (fun a b => ⟨a, b⟩)
  · have h1 : add1 (klr fs fr rs fuse fault size) d = doS (klr fs fr rs fuse fault size) [⟨1, nameB (fr + rs.length), ⟨#[]⟩, 0⟩] := by
      unfold add1
      rw [hfb, hfs, if_neg hroom]
      rw [show (klr fs fr rs fuse fault size).nx.toNat = fr + rs.length from Int.toNat_natCast _]
    have hne : ∀ l0 s, filesM fs = l0 ++ [s] → s.f.data.size ≠ 0 := fun l0 s e h0 => by
      apply hroom
      unfold roomM lastM
      rw [e, last_snoc]
      simp only [h0, Bool.and_eq_true, decide_eq_true_eq]
      omega
    obtain ⟨k1, k2, k3⟩ := kk_new hk (by omega) hne 0 ⟨#[]⟩
    rw [h1]
    by_cases h64 : fs.length = 64
    · rw [if_pos h64] at k1
      have e3 : doS (klr fs fr rs fuse fault size) [⟨1, nameB (fr + rs.length), ⟨#[]⟩, 0⟩] = (⟨⟨fs, false, fuse, fault⟩, size, (fr : Int), ((fr + rs.length : Nat) : Int), true⟩, 8) := by
        have e : doo ⟨fs, false, fuse, fault⟩ ⟨1, nameB (fr + rs.length), ⟨#[]⟩, 0⟩ = (⟨fs, false, fuse, fault⟩, 8) := by
          rw [doo_right hk.R ⟨by first | decide | (simp only [rmS]; decide), by first | decide | (simp only [rmS]; decide)⟩]
          unfold run
          rw [if_neg (by first | decide | (simp only [rmS]; decide))]
          simp only [k1]
          rfl
        unfold doS; rw [e]; rfl
      rw [e3, if_neg (by first | decide | (simp only [rmS]; decide))]
      exact ⟨hk.R, nfu, nfa, rfl, rfl, hn0, hn1, .inl ⟨by show (8 : Int) ≠ 0; decide, hk⟩, (fun h => by cases h), (fun h => by cases h), (fun h => by omega), (by first | (simp only [List.length_append, List.length_singleton]; done) | (simp only [List.length_append, List.length_singleton]; omega) | omega), fun _ _ _ => .inr ⟨rfl, h64⟩⟩
    · rw [if_neg h64] at k1
      obtain ⟨k4, k5⟩ := k3 h64
      rcases doo3 (d := ⟨fs, false, fuse, fault⟩) (m := ⟨1, nameB (fr + rs.length), ⟨#[]⟩, 0⟩) hk.R rfl ⟨by first | decide | (simp only [rmS]; decide), by first | decide | (simp only [rmS]; decide)⟩ k1 with ⟨c1, e⟩ | ⟨c1, c2, e⟩ | ⟨c1, c2, e⟩
      · have e3 : doS (klr fs fr rs fuse fault size) [⟨1, nameB (fr + rs.length), ⟨#[]⟩, 0⟩] = (⟨⟨fs, false, fuse, -1⟩, size, (fr : Int), ((fr + rs.length : Nat) : Int), true⟩, 18) := by
          unfold doS; rw [e]; rfl
        rw [e3, if_neg (by first | decide | (simp only [rmS]; decide))]
        exact ⟨hk.R, nfu, by show Num (-1); unfold Num; omega, rfl, rfl, hn0, hn1, .inl ⟨by show (18 : Int) ≠ 0; decide, hk⟩, (fun h => by cases h), (fun h => by cases h), (fun h => by omega), (by first | (simp only [List.length_append, List.length_singleton]; done) | (simp only [List.length_append, List.length_singleton]; omega) | omega), fun _ h1 h2 => by simp only at c1; omega⟩
      · have e3 : doS (klr fs fr rs fuse fault size) [⟨1, nameB (fr + rs.length), ⟨#[]⟩, 0⟩] = (⟨⟨fs, true, 0, dec fault⟩, size, (fr : Int), ((fr + rs.length : Nat) : Int), true⟩, 17) := by
          have hh : half fs ⟨1, nameB (fr + rs.length), ⟨#[]⟩, 0⟩ = fs := by unfold half; exact if_neg (c := (1 : Int) = 2) (by decide)
          simp only [hh] at e
          unfold doS; rw [e]; rfl
        rw [e3, if_neg (by first | decide | (simp only [rmS]; decide))]
        exact ⟨hk.R, by show Num 0; unfold Num; omega, num_dec nfa, rfl, rfl, hn0, hn1, .inl ⟨by show (17 : Int) ≠ 0; decide, hk⟩, (fun h => by cases h), (fun h => by cases h), (fun h => by omega), (by first | (simp only [List.length_append, List.length_singleton]; done) | (simp only [List.length_append, List.length_singleton]; omega) | omega), fun _ h1 h2 => by simp only at c2; omega⟩
      · simp only [k2] at e
        have e3 : doS (klr fs fr rs fuse fault size) [⟨1, nameB (fr + rs.length), ⟨#[]⟩, 0⟩] = (klr (fs ++ [⟨nameB (fr + rs.length), ⟨#[]⟩, 0⟩]) fr rs (dec fuse) (dec fault) size, 0) := by
          unfold doS; rw [e, if_pos rfl]; unfold doS; rfl
        rw [e3, if_pos rfl]
        obtain ⟨fs0, g1, g2⟩ := last_at k4.lg k5
        refine add2_kkr hB (by simp) k4 k5 g1 g2 (by omega) ?_ (num_dec nfu) (num_dec nfa) (fun a b => ?_)
        · show (⟨#[]⟩ : ByteArray).size + (16 + d.size) ≤ 262144
          have : (⟨#[]⟩ : ByteArray).size = 0 := rfl
          omega
        · subst a b; exact ⟨rfl, rfl⟩
end Go.Proofs.YtlgbehagflnfgaaGreatDoor

/- QUEUE, MATHEMATICS: what records are entries of; what a queue is. -/
namespace Go.Proofs.YtlgbehagflnfgaaGreatDoor
open Go.RowKit
set_option maxRecDepth 100000
set_option linter.unusedVariables false
set_option linter.unusedSimpArgs false

/-- a text without its first byte -/
def tlB (d : ByteArray) : ByteArray := d.extract 1 d.size
theorem bs_tl (d : ByteArray) : bs (tlB d) = (bs d).drop 1 := by
  unfold tlB
  rw [bs_ext, List.take_of_length_le (by rw [bs_len]; exact Nat.le_refl _)]
theorem tl_size (d : ByteArray) : (tlB d).size = d.size - 1 := by rw [← bs_len, bs_tl, List.length_drop, bs_len]
/-- the bytes of an ack's record, of a put's -/
def ackB (n : Nat) : ByteArray := ⟨(65 :: M.le 8 n).toArray⟩
def putB (d : ByteArray) : ByteArray := ⟨#[80]⟩ ++ d
theorem bs_ack (n : Nat) : bs (ackB n) = 65 :: M.le 8 n := bs_mk _
theorem bs_put (d : ByteArray) : bs (putB d) = 80 :: bs d := by unfold putB; rw [bs_app]; rfl
theorem ack_size (n : Nat) : (ackB n).size = 9 := by rw [← bs_len, bs_ack, List.length_cons, M.le_len]
theorem put_size (d : ByteArray) : (putB d).size = d.size + 1 := by rw [← bs_len, bs_put, List.length_cons, bs_len]
/-- the number that a record acks, what it puts -/
def ackOf (d : ByteArray) : Option Nat := if (bs d).head? = some 65 ∧ d.size = 9 then some (M.unle (bs (tlB d))) else none
def putOf (d : ByteArray) : Option ByteArray := if (bs d).head? = some 80 then some (tlB d) else none
theorem ackOf_ack {n : Nat} (h : n < 18446744073709551616) : ackOf (ackB n) = some n := by
  unfold ackOf
  rw [if_pos ⟨by rw [bs_ack]; rfl, ack_size n⟩, bs_tl, bs_ack]
  show some (M.unle (M.le 8 n)) = some n
  rw [M.unle_le 8 n (by simpa using h)]
theorem ackOf_put (d : ByteArray) : ackOf (putB d) = none := by
  unfold ackOf
  rw [if_neg (fun h => by rw [bs_put] at h; simp at h)]
theorem putOf_put (d : ByteArray) : putOf (putB d) = some d := by
  unfold putOf
  rw [if_pos (by rw [bs_put]; rfl)]
  congr 1
  apply bs_inj
  rw [bs_tl, bs_put]; rfl
theorem putOf_ack (n : Nat) : putOf (ackB n) = none := by
  unfold putOf
  rw [if_neg (fun h => by rw [bs_ack] at h; simp at h)]
theorem ackOf_lt {d : ByteArray} {n : Nat} (h : ackOf d = some n) : n < 18446744073709551616 := by
  unfold ackOf at h
  split at h
  · rename_i hc
    injection h with h
    subst h
    have h1 := M.unle_lt (bs (tlB d))
    rw [bs_len, tl_size, hc.2] at h1
    simpa using h1
  · cases h

/-- an entry -/
structure E where
  seq : Nat
  data : ByteArray
  leased : Bool
deriving DecidableEq
abbrev zE : E := ⟨0, ⟨#[]⟩, false⟩
def goneL (rs : List Rec) : List Nat := rs.filterMap fun r => ackOf r.data
def ent1 (r : Rec) : List E := match putOf r.data with
  | some d => [⟨r.seq, d, false⟩]
  | none => []
/-- the entries of records -/
def entM : List Rec → List E
  | [] => []
  | r :: t => (if r.seq ∈ goneL t then [] else ent1 r) ++ entM t
theorem goneL_app (a b : List Rec) : goneL (a ++ b) = goneL a ++ goneL b := by simp [goneL]
theorem ent1_mem {r : Rec} {e : E} (h : e ∈ ent1 r) : e.seq = r.seq ∧ e.leased = false ∧ putOf r.data = some e.data := by
  unfold ent1 at h
  cases hp : putOf r.data with
  | none => rw [hp] at h; cases h
  | some d => rw [hp] at h; simp only [List.mem_singleton] at h; subst h; exact ⟨rfl, rfl, rfl⟩
theorem ent1_len (r : Rec) : (ent1 r).length ≤ 1 := by
  unfold ent1
  cases putOf r.data <;> simp
theorem entM_app : ∀ (a b : List Rec), entM (a ++ b) = (entM a).filter (fun e => decide (e.seq ∉ goneL b)) ++ entM b
  | [], b => rfl
  | r :: t, b => by
    rw [List.cons_append, entM, entM, entM_app t b, goneL_app, List.filter_append, List.append_assoc]
    congr 1
    by_cases h1 : r.seq ∈ goneL t
    · rw [if_pos (List.mem_append_left _ h1), if_pos h1]; rfl
    · rw [if_neg h1]
      by_cases h2 : r.seq ∈ goneL b
      · rw [if_pos (List.mem_append_right _ h2)]
        refine (List.filter_eq_nil_iff.2 fun e he => ?_).symm
        rw [(ent1_mem he).1]
        simpa using h2
      · rw [if_neg (fun h => (List.mem_append.1 h).elim h1 h2)]
        refine (List.filter_eq_self.2 fun e he => ?_).symm
        rw [(ent1_mem he).1]
        simpa using h2
theorem entM_put (rs : List Rec) (n : Nat) (d : ByteArray) (h1 : n < 4611686018427387904) (h2 : (putB d).size ≤ 65536) : entM (rs ++ [⟨n, putB d, h1, h2⟩]) = entM rs ++ [⟨n, d, false⟩] := by
  have hg : goneL [⟨n, putB d, h1, h2⟩] = [] := by simp [goneL, ackOf_put]
  rw [entM_app, hg]
  congr 1
  · refine List.filter_eq_self.2 fun e he => by simp
  · simp [entM, ent1, putOf_put, goneL]
theorem entM_ack (rs : List Rec) (n s : Nat) (hs : s < 18446744073709551616) (h1 : n < 4611686018427387904) (h2 : (ackB s).size ≤ 65536) : entM (rs ++ [⟨n, ackB s, h1, h2⟩]) = (entM rs).filter (fun e => decide (e.seq ≠ s)) := by
  have hg : goneL [⟨n, ackB s, h1, h2⟩] = [s] := by simp [goneL, ackOf_ack hs]
  rw [entM_app, hg]
  have h3 : entM [⟨n, ackB s, h1, h2⟩] = [] := by simp [entM, ent1, putOf_ack, goneL]
  rw [h3, List.append_nil]
  congr 1
  funext e
  simp
theorem entM_mem : ∀ {rs : List Rec} {e : E}, e ∈ entM rs → ∃ r ∈ rs, e.seq = r.seq ∧ e.leased = false ∧ putOf r.data = some e.data
  | r :: t, e, h => by
    rw [entM] at h
    rcases List.mem_append.1 h with q | q
    · by_cases c : r.seq ∈ goneL t
      · rw [if_pos c] at q; cases q
      · rw [if_neg c] at q; exact ⟨r, List.mem_cons_self, ent1_mem q⟩
    · obtain ⟨r2, h1, h2⟩ := entM_mem q
      exact ⟨r2, List.mem_cons_of_mem _ h1, h2⟩
theorem entM_size {rs : List Rec} {e : E} (h : e ∈ entM rs) : e.data.size ≤ 65535 := by
  obtain ⟨r, _, _, _, h4⟩ := entM_mem h
  unfold putOf at h4
  split at h4
  · injection h4 with h4
    rw [← h4, tl_size]
    have := r.h2
    omega
  · cases h4
theorem entM_len : ∀ rs : List Rec, (entM rs).length ≤ rs.length
  | [] => Nat.le_refl _
  | r :: t => by
    have h1 := entM_len t
    have h2 := ent1_len r
    rw [entM, List.length_append, List.length_cons]
    split
    · simp; omega
    · omega
/-- records whose numbers are in a row -/
def Row (fr : Nat) (rs : List Rec) : Prop := ∀ (i : Nat) (r : Rec), rs[i]? = some r → r.seq = fr + i
theorem Row.tail {fr : Nat} {r : Rec} {t : List Rec} (h : Row fr (r :: t)) : r.seq = fr ∧ Row (fr + 1) t :=
  ⟨h 0 r rfl, fun i x hx => by have := h (i + 1) x (by simpa using hx); omega⟩
theorem kk_row {fs : List F} {fr : Nat} {rs : List Rec} (h : KK fs fr rs) : Row fr rs := fun i r hi => by
  have h1 := rdM_seq (filesM fs) fr i r
  rw [h.rd] at h1
  exact h1 hi
theorem Row.mem {fr : Nat} {rs : List Rec} (h : Row fr rs) {r : Rec} (hr : r ∈ rs) : fr ≤ r.seq ∧ r.seq < fr + rs.length := by
  obtain ⟨i, hi, e⟩ := List.mem_iff_getElem.1 hr
  have := h i r (by rw [List.getElem?_eq_getElem hi, e])
  omega
theorem ent_bd {fr : Nat} {rs : List Rec} (h : Row fr rs) {e : E} (he : e ∈ entM rs) : fr ≤ e.seq ∧ e.seq < fr + rs.length := by
  obtain ⟨r, hr, h2, _⟩ := entM_mem he
  rw [h2]; exact h.mem hr
theorem entM_drop {fr m : Nat} {rs : List Rec} (h : Row fr rs) (hm : ∀ e ∈ entM rs, fr + m ≤ e.seq) : entM (rs.drop m) = entM rs := by
  have h1 : rs = rs.take m ++ rs.drop m := (List.take_append_drop m rs).symm
  have h2 := entM_app (rs.take m) (rs.drop m)
  rw [← h1] at h2
  have h3 : (entM (rs.take m)).filter (fun e => decide (e.seq ∉ goneL (rs.drop m))) = [] := by
    refine List.eq_nil_iff_forall_not_mem.2 fun e he => ?_
    have h4 : e ∈ entM rs := by rw [h2]; exact List.mem_append_left _ he
    have h5 := hm e h4
    obtain ⟨r, hr, h6, _⟩ := entM_mem (List.mem_filter.1 he).1
    obtain ⟨i, hi, e1⟩ := List.mem_iff_getElem.1 hr
    rw [List.length_take] at hi
    rw [List.getElem_take] at e1
    have h7 := h i r (by rw [List.getElem?_eq_getElem (by omega), e1])
    omega
  rw [h3, List.nil_append] at h2
  exact h2.symm
/-- entries whose numbers rise, from a number on, ahead of another one -/
def inM (nx : Nat) : Nat → List E → Prop
  | _, [] => True
  | fr, e :: t => fr ≤ e.seq ∧ e.seq < nx ∧ e.data.size ≤ 65535 ∧ inM nx (e.seq + 1) t
theorem inM_mono {nx nx2 : Nat} : ∀ {es : List E} {fr fr2 : Nat}, inM nx fr es → (∀ e ∈ es, fr2 ≤ e.seq) → nx ≤ nx2 → inM nx2 fr2 es
  | [], _, _, _, _, _ => trivial
  | e :: t, fr, fr2, h, hf, hn => by
    obtain ⟨h1, h2, h3, h4⟩ := h
    refine ⟨hf e List.mem_cons_self, by omega, h3, inM_mono h4 (fun x hx => ?_) hn⟩
    clear hf
    exact inM_ge h4 hx
where
  inM_ge : ∀ {es : List E} {fr : Nat} {x : E}, inM nx fr es → x ∈ es → fr ≤ x.seq
    | e :: t, fr, x, h, hx => by
      rcases List.mem_cons.1 hx with q | q
      · subst q; exact h.1
      · have := inM_ge h.2.2.2 q
        have := h.1
        omega
theorem inM_ge {nx : Nat} : ∀ {es : List E} {fr : Nat} {x : E}, inM nx fr es → x ∈ es → fr ≤ x.seq
  | e :: t, fr, x, h, hx => by
    rcases List.mem_cons.1 hx with q | q
    · subst q; exact h.1
    · have := inM_ge h.2.2.2 q
      have := h.1
      omega
theorem inM_lt {nx : Nat} : ∀ {es : List E} {fr : Nat} {x : E}, inM nx fr es → x ∈ es → x.seq < nx ∧ x.data.size ≤ 65535
  | e :: t, fr, x, h, hx => by
    rcases List.mem_cons.1 hx with q | q
    · subst q; exact ⟨h.2.1, h.2.2.1⟩
    · exact inM_lt h.2.2.2 q
theorem inM_iff {nx : Nat} : ∀ {es : List E} {fr : Nat}, inM nx fr es ↔ (∀ e ∈ es, fr ≤ e.seq ∧ e.seq < nx ∧ e.data.size ≤ 65535) ∧ es.Pairwise (fun a b => a.seq < b.seq)
  | [], fr => ⟨fun _ => ⟨(fun _ h => by cases h), List.Pairwise.nil⟩, fun _ => trivial⟩
  | e :: t, fr => by
    rw [List.pairwise_cons]
    constructor
    · intro h
      obtain ⟨h1, h2, h3, h4⟩ := h
      obtain ⟨h5, h6⟩ := inM_iff.1 h4
      refine ⟨fun x hx => ?_, fun x hx => (h5 x hx).1, h6⟩
      rcases List.mem_cons.1 hx with q | q
      · subst q; exact ⟨h1, h2, h3⟩
      · obtain ⟨a, b, c⟩ := h5 x q
        exact ⟨by omega, b, c⟩
    · rintro ⟨h1, h2, h3⟩
      obtain ⟨a, b, c⟩ := h1 e List.mem_cons_self
      refine ⟨a, b, c, inM_iff.2 ⟨fun x hx => ?_, h3⟩⟩
      obtain ⟨d, f, g⟩ := h1 x (List.mem_cons_of_mem _ hx)
      have := h2 x hx
      exact ⟨by omega, f, g⟩
/-- the entries of records in a row are right -/
theorem ent_in : ∀ {rs : List Rec} {fr : Nat}, Row fr rs → inM (fr + rs.length) fr (entM rs)
  | [], fr, h => trivial
  | r :: t, fr, h => by
    obtain ⟨h1, h2⟩ := h.tail
    have ih := ent_in h2
    rw [entM]
    have e1 : fr + (r :: t).length = fr + 1 + t.length := by rw [List.length_cons]; omega
    rw [e1]
    refine inM_iff.2 ⟨fun e he => ?_, ?_⟩
    · have hm : e ∈ entM (r :: t) := by rw [entM]; exact he
      obtain ⟨a, b⟩ := ent_bd h hm
      exact ⟨a, by omega, entM_size hm⟩
    · rw [List.pairwise_append]
      refine ⟨?_, (inM_iff.1 ih).2, fun a ha b hb => ?_⟩
      · split
        · exact List.Pairwise.nil
        · unfold ent1
          split
          · exact List.pairwise_singleton _ _
          · exact List.Pairwise.nil
      · have hs : a.seq = fr := by
          split at ha
          · cases ha
          · rw [(ent1_mem ha).1, h1]
        have := (ent_bd h2 hb).1
        omega

/-- a queue -/
structure Q where
  l : L
  es : List E
  most : Int
def QRight (q : Q) : Prop := LRight q.l ∧ (1 ≤ q.most ∧ q.most ≤ 1024) ∧ q.es.length ≤ 1024 ∧ inM q.l.nx.toNat q.l.fr.toNat q.es
/-- where the first entry is that is free, that is leased and of a number -/
def freeAt (es : List E) : Option Nat := es.findIdx? fun e => !e.leased
def heldAt (es : List E) (s : Nat) : Option Nat := es.findIdx? fun e => e.leased && decide (e.seq = s)
def firstM2 (l : L) (es : List E) : Int := match es with
  | [] => l.nx
  | e :: _ => (e.seq : Int)
abbrev Ans : Type := Q × E × Int
open Classical in
noncomputable def putM (q : Q) (d : ByteArray) : Ans :=
  if q.most ≤ (q.es.length : Int) then (q, zE, 8) else if 65535 < d.size then (q, zE, 4)
  else if (appM q.l (putB d)).2 = 0 then (⟨(appM q.l (putB d)).1, q.es ++ [⟨q.l.nx.toNat, d, false⟩], q.most⟩, ⟨q.l.nx.toNat, ⟨#[]⟩, false⟩, 0)
  else (⟨(appM q.l (putB d)).1, q.es, q.most⟩, zE, (appM q.l (putB d)).2)
def leaseE (e : E) : E := { e with leased := true }
def freeE (e : E) : E := { e with leased := false }
def leaseM (q : Q) : Ans := match freeAt q.es with
  | none => (q, zE, 7)
  | some i => match q.es[i]? with
    | none => (q, zE, 7)
    | some e => (⟨q.l, q.es.set i (leaseE e), q.most⟩, leaseE e, 0)
def releaseM (q : Q) (s : Nat) : Ans := match heldAt q.es s with
  | none => (q, zE, 19)
  | some i => match q.es[i]? with
    | none => (q, zE, 19)
    | some e => (⟨q.l, q.es.set i (freeE e), q.most⟩, zE, 0)
open Classical in
/-- a drop from a log that was just appended to -/
noncomputable def drM (l : L) (s : Int) : L × Int := if LRight l then chM (fun l => cutM l s) l else (zl, 6)
open Classical in
noncomputable def ackM (q : Q) (s : Nat) : Ans := match heldAt q.es s with
  | none => (q, zE, 19)
  | some i =>
    if (appM q.l (ackB s)).2 = 0 then (⟨(drM (appM q.l (ackB s)).1 (firstM2 (appM q.l (ackB s)).1 (q.es.eraseIdx i))).1, q.es.eraseIdx i, q.most⟩, zE, (drM (appM q.l (ackB s)).1 (firstM2 (appM q.l (ackB s)).1 (q.es.eraseIdx i))).2)
    else (⟨(appM q.l (ackB s)).1, q.es, q.most⟩, zE, (appM q.l (ackB s)).2)
/-- what is done with a queue -/
inductive QS where
  | put (d : ByteArray)
  | lease
  | release (s : Nat)
  | ack (s : Nat)
  | none
noncomputable def stM (q : Q) : QS → Ans
  | .put d => putM q d
  | .lease => leaseM q
  | .release s => releaseM q s
  | .ack s => ackM q s
  | .none => (q, zE, 5)
noncomputable def chQ (q : Q) (s : QS) : Ans := if q.l.broken = true then (q, zE, 6) else stM q s
end Go.Proofs.YtlgbehagflnfgaaGreatDoor

/- QUEUE: ENTRIES IN MEMORY. -/
namespace Go.Proofs.YtlgbehagflnfgaaGreatDoor
open Go.RowKit
set_option maxRecDepth 100000
set_option linter.unusedVariables false
set_option linter.unusedSimpArgs false

/-- an entry's cells -/
def ec (f : E) : List Value := [.int .u64 (f.seq : Int), .string f.data, .bool f.leased]
theorem ec_one (fs : List E) : ∀ u ∈ fs.flatMap ec, u.oneCell' = true := by
  intro u hu
  obtain ⟨f, _, hu⟩ := List.mem_flatMap.1 hu
  simp only [ec, List.mem_cons, List.not_mem_nil, or_false] at hu
  rcases hu with rfl | rfl | rfl <;> rfl
theorem ec_len (fs : List E) : (fs.flatMap ec).length = fs.length * 3 := by
  induction fs with
  | nil => rfl
  | cons f fs ih => rw [List.flatMap_cons, List.length_append, ih]; simp [ec]; omega
theorem ec_at (fs : List E) : ∀ (i : Nat) (f : E), fs[i]? = some f → ∀ j, j < 3 → (fs.flatMap ec)[i * 3 + j]? = (ec f)[j]? := by
  induction fs with
  | nil => intro i f h; simp at h
  | cons x fs ih =>
    intro i f h j hj
    rw [List.flatMap_cons]
    cases i with
    | zero =>
      simp at h; subst h
      rw [List.getElem?_append_left (by simp [ec]; omega)]
      simp
    | succ i =>
      rw [List.getElem?_append_right (by simp [ec]; omega)]
      have e : (i + 1) * 3 + j - (ec x).length = i * 3 + j := by simp [ec]; omega
      rw [e]
      exact ih i f (by simpa using h) j hj

/-- entry i lies in block g behind off -/
structure Ae3 (w : World) (g off i : Nat) (f : E) : Prop where
  q0 : w.cell? ⟨g, off + i * 3, none⟩ = some (.int .u64 (f.seq : Int))
  q1 : w.cell? ⟨g, off + i * 3 + 1, none⟩ = some (.string f.data)
  q2 : w.cell? ⟨g, off + i * 3 + 2, none⟩ = some (.bool f.leased)

/-- at ad lie the entries fs -/
def Els (w : World) (B : Nat) (ad : Option Addr) (fs : List E) : Prop :=
  fs ≠ [] → ∃ g off, ad = some ⟨g, off, none⟩ ∧ g < B ∧ ∀ i f, fs[i]? = some f → Ae3 w g off i f
theorem Els.nil (w : World) (B : Nat) (ad : Option Addr) : Els w B ad [] := fun h => absurd rfl h
theorem Ae3.keep {w w' : World} {B g off i : Nat} {f : E} (h : Ae3 w g off i f) (hg : g < B) (hb : Below B w w') : Ae3 w' g off i f :=
  ⟨(hb.cell (p := ⟨g, _, none⟩) hg).trans h.q0, (hb.cell (p := ⟨g, _, none⟩) hg).trans h.q1, (hb.cell (p := ⟨g, _, none⟩) hg).trans h.q2⟩
theorem Els.keep {w w' : World} {B : Nat} {ad : Option Addr} {fs : List E} (h : Els w B ad fs) (hb : Below B w w') : Els w' B ad fs := by
  intro hne
  obtain ⟨g, off, e, hg, hi⟩ := h hne
  exact ⟨g, off, e, hg, fun i f hf => (hi i f hf).keep hg hb⟩
theorem Els.mono {w : World} {B B' : Nat} {ad : Option Addr} {fs : List E} (h : Els w B ad fs) (hb : B ≤ B') : Els w B' ad fs := fun hne => by
  obtain ⟨g, off, e, hg, hi⟩ := h hne
  exact ⟨g, off, e, Nat.lt_of_lt_of_le hg hb, hi⟩
theorem Els.cells {w : World} {B : Nat} {ad : Option Addr} {fs : List E} (h : Els w B ad fs) (hne : fs ≠ []) :
    ∃ g off, ad = some ⟨g, off, none⟩ ∧ g < B ∧ ∀ j u, (fs.flatMap ec)[j]? = some u → w.cell? ⟨g, off + j, none⟩ = some u := by
  obtain ⟨g, off, e, hg, hi⟩ := h hne
  refine ⟨g, off, e, hg, fun j u hu => ?_⟩
  have hj : j < fs.length * 3 := by rw [← ec_len]; exact (List.getElem?_eq_some_iff.1 hu).1
  obtain ⟨q, hq⟩ : ∃ q, fs[j / 3]? = some q := ⟨fs[j / 3]'(by omega), by simp⟩
  have hh := hi _ _ hq
  have e3 : j = j / 3 * 3 + j % 3 := by omega
  rw [e3, ec_at fs _ _ hq _ (by omega)] at hu
  have hm : j % 3 = 0 ∨ j % 3 = 1 ∨ j % 3 = 2 := by omega
  rcases hm with hm | hm | hm
  · rw [hm] at hu; simp [ec] at hu; subst hu; rw [e3, hm]; exact hh.q0
  · rw [hm] at hu; simp [ec] at hu; subst hu; rw [e3, hm]; exact hh.q1
  · rw [hm] at hu; simp [ec] at hu; subst hu; rw [e3, hm]; exact hh.q2
theorem Els.of_cells {w : World} {B g off : Nat} {fs : List E} (hg : g < B) (h : ∀ j u, (fs.flatMap ec)[j]? = some u → w.cell? ⟨g, off + j, none⟩ = some u) : Els w B (some ⟨g, off, none⟩) fs := by
  intro _
  refine ⟨g, off, rfl, hg, fun i f hf => ?_⟩
  have at_ : ∀ j u, j < 3 → (ec f)[j]? = some u → w.cell? ⟨g, off + i * 3 + j, none⟩ = some u := fun j u hj hu => by
    rw [Nat.add_assoc]
    exact h _ _ (by rw [ec_at fs i f hf j hj]; exact hu)
  exact ⟨at_ 0 _ (by omega) rfl, at_ 1 _ (by omega) rfl, at_ 2 _ (by omega) rfl⟩

/-- the slice v of the call's own has the entries fs -/
def ERow (w : World) (base : Nat) (v : Value) (fs : List E) : Prop := w.ownsRow base 39 3 v fs.length (fs.flatMap ec)
section
variable {w w' : World} {base : Nat} {v : Value} {fs : List E}
theorem ERow.alloc (h : ERow w base v fs) (o : Obj) : ERow (w.alloc o) base v fs := World.ownsRow.alloc h o
theorem ERow.lt (h : ERow w base v fs) : ∀ k, v.ownBlock = some k → base ≤ k ∧ k < w.heap.size := World.ownsRow.lt h
theorem ERow.kept {row : Option Nat} (h : ERow w base v fs) (hg : w.grownBy w' row) (hne : v.ownBlock = none ∨ v.ownBlock ≠ row) : ERow w' base v fs := World.ownsRow.kept h hg hne
theorem ERow.free (h : ERow w base v fs) : ∀ b, v.ownBlock = some b → Free w b := fun b e => by
  rcases h.2 with ⟨hv, _⟩ | ⟨g, cap, cur, hv, _, hg, _⟩
  · rw [hv] at e; simp [Value.ownBlock] at e
  · rw [hv] at e; simp [Value.ownBlock] at e; subst e; exact ⟨_, _, hg⟩
theorem ERow.fls (h : ERow w base v fs) : ∃ ad cap, v = .slice ad fs.length cap ∧ fs.length ≤ cap ∧ (ad = none → cap = 0) ∧ Els w w.heap.size ad fs := by
  rcases h.2 with ⟨hv, hn⟩ | ⟨g, cap, cur, hv, hbg, hg, hnc, hcm, hcs, htake⟩
  · have hx : fs = [] := List.eq_nil_of_length_eq_zero hn
    subst hx
    exact ⟨none, 0, hv, Nat.le_refl _, fun _ => rfl, fun h => absurd rfl h⟩
  · refine ⟨some ⟨g, 0, none⟩, cap, hv, hnc, (fun h => by cases h), Els.of_cells (Array.getElem?_eq_some_iff.1 hg).1 fun j u hu => ?_⟩
    have := World.ownsRow.cells h (g := g) (by rw [hv]; rfl) j u hu
    rwa [show (⟨g, 0, none⟩ : Addr).add j = ⟨g, 0 + j, none⟩ by unfold Addr.add; split <;> simp_all] at this
/-- the row, by its cells -/
def ERowAt (w : World) (base : Nat) (v : Value) (n : Nat) (xs : List Value) : Prop := w.ownsRow base 39 3 v n xs
/-- the row's block -/
theorem ERow.blk (h : ERow w base v fs) (hne : fs ≠ []) : ∃ g cap, v = .slice (some ⟨g, 0, none⟩) fs.length cap ∧ base ≤ g ∧ g < w.heap.size ∧ fs.length ≤ cap ∧ (∀ i f, fs[i]? = some f → Ae3 w g 0 i f) ∧ (∀ j, w.frozen? ⟨g, j, none⟩ = false) ∧
    (∀ j u, ERowAt (w.setCell ⟨g, j, none⟩ u) base v fs.length ((fs.flatMap ec).set j u) ∧ w.grownBy (w.setCell ⟨g, j, none⟩ u) (some g)) := by
  obtain ⟨ad, cap, hv, hc, _, hf⟩ := h.fls
  obtain ⟨g, off, rfl, hg, hi⟩ := hf hne
  rcases h.2 with ⟨hv', hn⟩ | ⟨g', cap', cur, hv', hbg, hg', hnc, hcm, hcs, htake⟩
  · rw [hv] at hv'; simp at hv'
  · rw [hv] at hv'
    simp only [Value.slice.injEq, Option.some.injEq, Addr.mk.injEq, and_true, true_and] at hv'
    obtain ⟨⟨rfl, rfl⟩, rfl⟩ := hv'
    subst hv
    exact ⟨g, cap, rfl, hbg, hg, hc, hi, fun j => World.ownsRow.frozenAt h j, fun j u => World.ownsRow.stored h j u⟩
end
/-- a slice of entries that came in -/
def EIn (w : World) (B : Nat) (ad : Option Addr) (n cap : Nat) (fs : List E) : Prop := n = fs.length ∧ n ≤ cap ∧ (ad = none → cap = 0) ∧ Els w B ad fs
theorem EIn.keep {w w' : World} {B : Nat} {ad : Option Addr} {n cap : Nat} {fs : List E} (h : EIn w B ad n cap fs) (hb : Below B w w') : EIn w' B ad n cap fs := ⟨h.1, h.2.1, h.2.2.1, h.2.2.2.keep hb⟩
theorem EIn.mono {w : World} {B B' : Nat} {ad : Option Addr} {n cap : Nat} {fs : List E} (h : EIn w B ad n cap fs) (hb : B ≤ B') : EIn w B' ad n cap fs := ⟨h.1, h.2.1, h.2.2.1, h.2.2.2.mono hb⟩
theorem esrc_cells {w w' : World} {B : Nat} {a : Addr} {fs : List E} (hf : Els w B (some a) fs) (hb : Below B w w') : ∀ j u, (fs.flatMap ec)[j]? = some u → w'.cell? (a.add j) = some u := by
  intro j u hu
  have hne : fs ≠ [] := by rintro rfl; simp at hu
  obtain ⟨g, off, e, hg, hc⟩ := hf.cells hne
  injection e with e
  subst e
  rw [Addr.add_lit]
  exact (hb.cell (p := ⟨g, off + j, none⟩) hg).trans (hc j u hu)
theorem ERow.not_new {w : World} {base : Nat} {v : Value} {fs : List E} (h : ERow w base v fs) : v.ownBlock = none ∨ v.ownBlock ≠ none ∧ ∀ k, v.ownBlock = some k → k < w.heap.size := by
  cases e : v.ownBlock with
  | none => exact .inl rfl
  | some k => exact .inr ⟨by simp, fun j hj => by injection hj with hj; subst hj; exact (h.lt k e).2⟩
theorem ERow.form {w : World} {base : Nat} {v : Value} {fs : List E} (h : ERow w base v fs) : ∃ ad cap, v = .slice ad fs.length cap := by
  obtain ⟨ad, cap, h1, _⟩ := h.fls; exact ⟨ad, cap, h1⟩
theorem ERow.set_far {w : World} {base : Nat} {v : Value} {fs : List E} (h : ERow w base v fs) {g o : Nat} (u : Value) (hne : v.ownBlock ≠ some g) : ERow (w.setCell ⟨g, o, none⟩ u) base v fs :=
  h.kept (row := some g) ⟨rfl, rfl, rfl, by simp [World.setCell], fun k _ hk => Below.heap_setCell w _ u k (by intro e; exact hk (by rw [e]))⟩ (.inr hne)
theorem eflat_drop (fs : List E) (e : Nat) : (fs.drop e).flatMap ec = (fs.flatMap ec).drop (e * 3) := by
  induction fs generalizing e with
  | nil => simp
  | cons a t ih =>
    cases e with
    | zero => simp
    | succ e =>
      rw [List.drop_succ_cons, ih, List.flatMap_cons, List.drop_append]
      have h1 : (ec a).length = 3 := rfl
      have h2 : (ec a).drop ((e + 1) * 3) = [] := List.drop_of_length_le (by rw [h1]; omega)
      rw [h2, h1, List.nil_append, show (e + 1) * 3 - 3 = e * 3 by omega]
theorem eflat_take (fs : List E) (e : Nat) : (fs.take e).flatMap ec = (fs.flatMap ec).take (e * 3) := by
  induction fs generalizing e with
  | nil => simp
  | cons a t ih =>
    cases e with
    | zero => simp
    | succ e =>
      rw [List.take_succ_cons, List.flatMap_cons, ih, List.flatMap_cons, List.take_append]
      have h1 : (ec a).length = 3 := rfl
      have h2 : (ec a).take ((e + 1) * 3) = ec a := List.take_of_length_le (by rw [h1]; omega)
      rw [h2, h1, show (e + 1) * 3 - 3 = e * 3 by omega]
theorem EIn.of_row {w : World} {base : Nat} {v : Value} {fs : List E} (h : ERow w base v fs) : ∃ ad cap, v = .slice ad fs.length cap ∧ EIn w w.heap.size ad fs.length cap fs := by
  obtain ⟨ad, cap, hv, hc, hnil, hf⟩ := h.fls
  exact ⟨ad, cap, hv, rfl, hc, hnil, hf⟩
theorem ERow.of_own {w : World} {base n : Nat} {v : Value} {fs : List E} (h : w.ownsRow base 39 3 v n (fs.flatMap ec)) : ERow w base v fs := by
  have hl := h.1
  rw [ec_len] at hl
  have : n = fs.length := by omega
  subst this
  exact h
theorem EIn.nil (w : World) (B : Nat) : EIn w B none 0 0 [] := ⟨rfl, Nat.le_refl _, fun _ => rfl, Els.nil _ _ _⟩
theorem EIn.drew {w : World} {B : Nat} {ad : Option Addr} {n cap : Nat} {fs : List E} (h : EIn w B ad n cap fs) : EIn w.drew B ad n cap fs := h.keep ((Below.refl B w).drew)
theorem EIn.under {w w' : World} {ad : Option Addr} {n cap : Nat} {fs : List E} (h : EIn w w.heap.size ad n cap fs) (hb : Below w.heap.size w w') : EIn w' w'.heap.size ad n cap fs := (h.keep hb).mono hb.size
theorem EIn.set {w : World} {B : Nat} {ad : Option Addr} {n cap : Nat} {fs : List E} (h : EIn w B ad n cap fs) {q o : Nat} {u : Value} (hq : (Value.slice ad n cap).ownBlock ≠ some q) : EIn (w.setCell ⟨q, o, none⟩ u) B ad n cap fs := by
  refine ⟨h.1, h.2.1, h.2.2.1, fun hne => ?_⟩
  obtain ⟨gb, off, rfl, hgb, hc⟩ := h.2.2.2 hne
  have hne' : gb ≠ q := by intro e; subst e; exact hq rfl
  have hcell : ∀ j, (w.setCell ⟨q, o, none⟩ u).cell? ⟨gb, j, none⟩ = w.cell? ⟨gb, j, none⟩ := fun j => World.cell?_of_block (w := w) (Below.heap_setCell w ⟨q, o, none⟩ _ gb hne')
  exact ⟨gb, off, rfl, hgb, fun i f hf => ⟨(hcell _).trans (hc i f hf).q0, (hcell _).trans (hc i f hf).q1, (hcell _).trans (hc i f hf).q2⟩⟩

end Go.Proofs.YtlgbehagflnfgaaGreatDoor

/- QUEUE: BOXES OF TEN CELLS; THE WALKS OVER isMost, areIn, Check. -/
namespace Go.Proofs.YtlgbehagflnfgaaGreatDoor
open Go.RowKit
set_option maxRecDepth 100000
set_option linter.unusedVariables false
set_option linter.unusedSimpArgs false

abbrev qcells (v : Value) (down : Bool) (fuse fault size fr nx : Int) (broken : Bool) (u : Value) (most : Int) : Array Value := #[v, .bool down, .int .i64 fuse, .int .i64 fault, .int .i64 size, .int .u64 fr, .int .u64 nx, .bool broken, u, .int .i64 most]
abbrev Q.cells (q : Q) (v u : Value) : Array Value := qcells v q.l.d.down q.l.d.fuse q.l.d.fault q.l.size q.l.fr q.l.nx q.l.broken u q.most
abbrev zqueue : Array Value := qcells (.slice none 0 0) false 0 0 0 0 0 false (.slice none 0 0) 0
theorem box10 {w : World} {g : Nat} {x0 x1 x2 x3 x4 x5 x6 x7 x8 x9 : Value} {t : TypeId} (h : w.heap[g]? = some (.cells #[x0, x1, x2, x3, x4, x5, x6, x7, x8, x9] t (0, 0))) :
    w.cell? ⟨g, 0, none⟩ = some x0 ∧ w.cell? ⟨g, 1, none⟩ = some x1 ∧ w.cell? ⟨g, 2, none⟩ = some x2 ∧ w.cell? ⟨g, 3, none⟩ = some x3 ∧ w.cell? ⟨g, 4, none⟩ = some x4 ∧ w.cell? ⟨g, 5, none⟩ = some x5 ∧ w.cell? ⟨g, 6, none⟩ = some x6 ∧ w.cell? ⟨g, 7, none⟩ = some x7 ∧ w.cell? ⟨g, 8, none⟩ = some x8 ∧ w.cell? ⟨g, 9, none⟩ = some x9 :=
  ⟨cell_of_row w g 0 _ t (0, 0) h, cell_of_row w g 1 _ t (0, 0) h, cell_of_row w g 2 _ t (0, 0) h, cell_of_row w g 3 _ t (0, 0) h, cell_of_row w g 4 _ t (0, 0) h, cell_of_row w g 5 _ t (0, 0) h, cell_of_row w g 6 _ t (0, 0) h, cell_of_row w g 7 _ t (0, 0) h, cell_of_row w g 8 _ t (0, 0) h, cell_of_row w g 9 _ t (0, 0) h⟩
theorem frz10 {w : World} {g : Nat} {x0 x1 x2 x3 x4 x5 x6 x7 x8 x9 : Value} {t : TypeId} (h : w.heap[g]? = some (.cells #[x0, x1, x2, x3, x4, x5, x6, x7, x8, x9] t (0, 0))) :
    w.frozen? ⟨g, 0, none⟩ = false ∧ w.frozen? ⟨g, 1, none⟩ = false ∧ w.frozen? ⟨g, 2, none⟩ = false ∧ w.frozen? ⟨g, 3, none⟩ = false ∧ w.frozen? ⟨g, 4, none⟩ = false ∧ w.frozen? ⟨g, 5, none⟩ = false ∧ w.frozen? ⟨g, 6, none⟩ = false ∧ w.frozen? ⟨g, 7, none⟩ = false ∧ w.frozen? ⟨g, 8, none⟩ = false ∧ w.frozen? ⟨g, 9, none⟩ = false :=
  ⟨frozen_of_row w g 0 _ t h, frozen_of_row w g 1 _ t h, frozen_of_row w g 2 _ t h, frozen_of_row w g 3 _ t h, frozen_of_row w g 4 _ t h, frozen_of_row w g 5 _ t h, frozen_of_row w g 6 _ t h, frozen_of_row w g 7 _ t h, frozen_of_row w g 8 _ t h, frozen_of_row w g 9 _ t h⟩
abbrev put10 (w : World) (g : Nat) (v0 v1 v2 v3 v4 v5 v6 v7 v8 v9 : Value) : World := ((((((((((w.setCell ⟨g, 0, none⟩ v0).setCell ⟨g, 1, none⟩ v1).setCell ⟨g, 2, none⟩ v2).setCell ⟨g, 3, none⟩ v3).setCell ⟨g, 4, none⟩ v4).setCell ⟨g, 5, none⟩ v5).setCell ⟨g, 6, none⟩ v6).setCell ⟨g, 7, none⟩ v7).setCell ⟨g, 8, none⟩ v8).setCell ⟨g, 9, none⟩ v9)
theorem cell_put10 {w : World} {g : Nat} {x0 x1 x2 x3 x4 x5 x6 x7 x8 x9 : Value} {t : TypeId} (h : w.heap[g]? = some (.cells #[x0, x1, x2, x3, x4, x5, x6, x7, x8, x9] t (0, 0))) (v0 v1 v2 v3 v4 v5 v6 v7 v8 v9 : Value) :
    (put10 w g v0 v1 v2 v3 v4 v5 v6 v7 v8 v9).heap[g]? = some (.cells #[v0, v1, v2, v3, v4, v5, v6, v7, v8, v9] t (0, 0)) := by
  have h0 : (w.setCell ⟨g, 0, none⟩ v0).heap[g]? = some (.cells #[v0, x1, x2, x3, x4, x5, x6, x7, x8, x9] t (0, 0)) := heap_setCell_same _ g 0 _ t _ h
  have h1 : ((w.setCell ⟨g, 0, none⟩ v0).setCell ⟨g, 1, none⟩ v1).heap[g]? = some (.cells #[v0, v1, x2, x3, x4, x5, x6, x7, x8, x9] t (0, 0)) := heap_setCell_same _ g 1 _ t _ h0
  have h2 : (((w.setCell ⟨g, 0, none⟩ v0).setCell ⟨g, 1, none⟩ v1).setCell ⟨g, 2, none⟩ v2).heap[g]? = some (.cells #[v0, v1, v2, x3, x4, x5, x6, x7, x8, x9] t (0, 0)) := heap_setCell_same _ g 2 _ t _ h1
  have h3 : ((((w.setCell ⟨g, 0, none⟩ v0).setCell ⟨g, 1, none⟩ v1).setCell ⟨g, 2, none⟩ v2).setCell ⟨g, 3, none⟩ v3).heap[g]? = some (.cells #[v0, v1, v2, v3, x4, x5, x6, x7, x8, x9] t (0, 0)) := heap_setCell_same _ g 3 _ t _ h2
  have h4 : (((((w.setCell ⟨g, 0, none⟩ v0).setCell ⟨g, 1, none⟩ v1).setCell ⟨g, 2, none⟩ v2).setCell ⟨g, 3, none⟩ v3).setCell ⟨g, 4, none⟩ v4).heap[g]? = some (.cells #[v0, v1, v2, v3, v4, x5, x6, x7, x8, x9] t (0, 0)) := heap_setCell_same _ g 4 _ t _ h3
  have h5 : ((((((w.setCell ⟨g, 0, none⟩ v0).setCell ⟨g, 1, none⟩ v1).setCell ⟨g, 2, none⟩ v2).setCell ⟨g, 3, none⟩ v3).setCell ⟨g, 4, none⟩ v4).setCell ⟨g, 5, none⟩ v5).heap[g]? = some (.cells #[v0, v1, v2, v3, v4, v5, x6, x7, x8, x9] t (0, 0)) := heap_setCell_same _ g 5 _ t _ h4
  have h6 : (((((((w.setCell ⟨g, 0, none⟩ v0).setCell ⟨g, 1, none⟩ v1).setCell ⟨g, 2, none⟩ v2).setCell ⟨g, 3, none⟩ v3).setCell ⟨g, 4, none⟩ v4).setCell ⟨g, 5, none⟩ v5).setCell ⟨g, 6, none⟩ v6).heap[g]? = some (.cells #[v0, v1, v2, v3, v4, v5, v6, x7, x8, x9] t (0, 0)) := heap_setCell_same _ g 6 _ t _ h5
  have h7 : ((((((((w.setCell ⟨g, 0, none⟩ v0).setCell ⟨g, 1, none⟩ v1).setCell ⟨g, 2, none⟩ v2).setCell ⟨g, 3, none⟩ v3).setCell ⟨g, 4, none⟩ v4).setCell ⟨g, 5, none⟩ v5).setCell ⟨g, 6, none⟩ v6).setCell ⟨g, 7, none⟩ v7).heap[g]? = some (.cells #[v0, v1, v2, v3, v4, v5, v6, v7, x8, x9] t (0, 0)) := heap_setCell_same _ g 7 _ t _ h6
  have h8 : (((((((((w.setCell ⟨g, 0, none⟩ v0).setCell ⟨g, 1, none⟩ v1).setCell ⟨g, 2, none⟩ v2).setCell ⟨g, 3, none⟩ v3).setCell ⟨g, 4, none⟩ v4).setCell ⟨g, 5, none⟩ v5).setCell ⟨g, 6, none⟩ v6).setCell ⟨g, 7, none⟩ v7).setCell ⟨g, 8, none⟩ v8).heap[g]? = some (.cells #[v0, v1, v2, v3, v4, v5, v6, v7, v8, x9] t (0, 0)) := heap_setCell_same _ g 8 _ t _ h7
  have h9 : ((((((((((w.setCell ⟨g, 0, none⟩ v0).setCell ⟨g, 1, none⟩ v1).setCell ⟨g, 2, none⟩ v2).setCell ⟨g, 3, none⟩ v3).setCell ⟨g, 4, none⟩ v4).setCell ⟨g, 5, none⟩ v5).setCell ⟨g, 6, none⟩ v6).setCell ⟨g, 7, none⟩ v7).setCell ⟨g, 8, none⟩ v8).setCell ⟨g, 9, none⟩ v9).heap[g]? = some (.cells #[v0, v1, v2, v3, v4, v5, v6, v7, v8, v9] t (0, 0)) := heap_setCell_same _ g 9 _ t _ h8
  exact h9
theorem below_put10 {B : Nat} {w0 w : World} {g : Nat} (h : Below B w0 w) (hg : B ≤ g) (v0 v1 v2 v3 v4 v5 v6 v7 v8 v9 : Value) : Below B w0 (put10 w g v0 v1 v2 v3 v4 v5 v6 v7 v8 v9) := ((((((((((h.setCell hg _).setCell hg _).setCell hg _).setCell hg _).setCell hg _).setCell hg _).setCell hg _).setCell hg _).setCell hg _).setCell hg _)
theorem put10_size (w : World) (g : Nat) (v0 v1 v2 v3 v4 v5 v6 v7 v8 v9 : Value) : (put10 w g v0 v1 v2 v3 v4 v5 v6 v7 v8 v9).heap.size = w.heap.size := by simp [World.setCell]
set_option maxHeartbeats 2000000 in
theorem put10_other {w : World} {g b : Nat} (h : b ≠ g) (v0 v1 v2 v3 v4 v5 v6 v7 v8 v9 : Value) : (put10 w g v0 v1 v2 v3 v4 v5 v6 v7 v8 v9).heap[b]? = w.heap[b]? :=
  (Below.heap_setCell _ ⟨g, 9, none⟩ v9 b h).trans ((Below.heap_setCell _ ⟨g, 8, none⟩ v8 b h).trans ((Below.heap_setCell _ ⟨g, 7, none⟩ v7 b h).trans ((Below.heap_setCell _ ⟨g, 6, none⟩ v6 b h).trans ((Below.heap_setCell _ ⟨g, 5, none⟩ v5 b h).trans ((Below.heap_setCell _ ⟨g, 4, none⟩ v4 b h).trans ((Below.heap_setCell _ ⟨g, 3, none⟩ v3 b h).trans ((Below.heap_setCell _ ⟨g, 2, none⟩ v2 b h).trans ((Below.heap_setCell _ ⟨g, 1, none⟩ v1 b h).trans (Below.heap_setCell w ⟨g, 0, none⟩ v0 b h)))))))))
theorem put10_grown (w : World) (g : Nat) (v0 v1 v2 v3 v4 v5 v6 v7 v8 v9 : Value) : w.grownBy (put10 w g v0 v1 v2 v3 v4 v5 v6 v7 v8 v9) (some g) := (kd_set (kd_set (kd_set (kd_set (kd_set (kd_set (kd_set (kd_set (kd_set (kd_set (kd_refl g w) _) _) _) _) _) _) _) _) _) _)
theorem Inp.same {w w' : World} {B : Nat} {ad : Option Addr} {n cap : Nat} {fs : List F} (h : Inp w B ad n cap fs) (hk : ∀ b, (Value.slice ad n cap).ownBlock = some b → w'.heap[b]? = w.heap[b]?) : Inp w' B ad n cap fs := by
  refine ⟨h.1, h.2.1, h.2.2.1, fun hne => ?_⟩
  obtain ⟨gb, off, rfl, hgb, hc⟩ := h.2.2.2 hne
  have hb := hk gb rfl
  exact ⟨gb, off, rfl, hgb, fun i f hf => ⟨(World.cell?_of_block hb).trans (hc i f hf).q0, (World.cell?_of_block hb).trans (hc i f hf).q1, (World.cell?_of_block hb).trans (hc i f hf).q2⟩⟩
theorem EIn.same {w w' : World} {B : Nat} {ad : Option Addr} {n cap : Nat} {fs : List E} (h : EIn w B ad n cap fs) (hk : ∀ b, (Value.slice ad n cap).ownBlock = some b → w'.heap[b]? = w.heap[b]?) : EIn w' B ad n cap fs := by
  refine ⟨h.1, h.2.1, h.2.2.1, fun hne => ?_⟩
  obtain ⟨gb, off, rfl, hgb, hc⟩ := h.2.2.2 hne
  have hb := hk gb rfl
  exact ⟨gb, off, rfl, hgb, fun i f hf => ⟨(World.cell?_of_block hb).trans (hc i f hf).q0, (World.cell?_of_block hb).trans (hc i f hf).q1, (World.cell?_of_block hb).trans (hc i f hf).q2⟩⟩
theorem Inp.put10 {w : World} {B : Nat} {ad : Option Addr} {n cap : Nat} {fs : List F} (h : Inp w B ad n cap fs) {g : Nat} (ho : (Value.slice ad n cap).ownBlock ≠ some g) (v0 v1 v2 v3 v4 v5 v6 v7 v8 v9 : Value) : Inp (put10 w g v0 v1 v2 v3 v4 v5 v6 v7 v8 v9) B ad n cap fs := h.same fun b e => put10_other (fun q => ho (by rw [← q]; exact e)) v0 v1 v2 v3 v4 v5 v6 v7 v8 v9
theorem EIn.put10 {w : World} {B : Nat} {ad : Option Addr} {n cap : Nat} {fs : List E} (h : EIn w B ad n cap fs) {g : Nat} (ho : (Value.slice ad n cap).ownBlock ≠ some g) (v0 v1 v2 v3 v4 v5 v6 v7 v8 v9 : Value) : EIn (put10 w g v0 v1 v2 v3 v4 v5 v6 v7 v8 v9) B ad n cap fs := h.same fun b e => put10_other (fun q => ho (by rw [← q]; exact e)) v0 v1 v2 v3 v4 v5 v6 v7 v8 v9
def EFit (e : E) : Prop := e.seq < 18446744073709551616 ∧ e.data.size ≤ 9223372036854775807
/-- a queue that came in -/
structure QIn (w : World) (ad : Option Addr) (n cap : Nat) (ad2 : Option Addr) (n2 cap2 : Nat) (q : Q) : Prop where
  l : LIn w ad n cap q.l
  e : EIn w w.heap.size ad2 n2 cap2 q.es
  fit : ∀ e ∈ q.es, EFit e
  m : Num q.most
theorem QIn.under {w w' : World} {ad : Option Addr} {n cap : Nat} {ad2 : Option Addr} {n2 cap2 : Nat} {q : Q} (h : QIn w ad n cap ad2 n2 cap2 q) (hb : Below w.heap.size w w') : QIn w' ad n cap ad2 n2 cap2 q := ⟨h.l.under hb, h.e.under hb, h.fit, h.m⟩

theorem isMost_any (w : World) (n : Int) : Calls Tryz.prog 30 #[.int .i64 n] w fun e w' => e = .returned (.bool (decide (1 ≤ n) && decide (n ≤ 1024))) ∧ w = w' := by
  go_enter Tryz.func30, Tryz.ntmps30
  by_cases h1 : 1 ≤ n
  · by_cases h2 : n ≤ 1024
    · have e : (decide (1 ≤ n) && decide (n ≤ 1024)) = true := by simp [h1, h2]
      rw [e]
      clear e
      go_wp2
      go_ret
      exact ⟨rfl, rfl⟩
    · have e : (decide (1 ≤ n) && decide (n ≤ 1024)) = false := by simp [h2]
      rw [e]
      clear e
      go_wp2
      go_ret
      exact ⟨rfl, rfl⟩
  · have e : (decide (1 ≤ n) && decide (n ≤ 1024)) = false := by simp [h1]
    rw [e]
    clear e
    go_wp2
    go_ret
    exact ⟨rfl, rfl⟩

/-- the number ahead of which no entry's may lie, behind so many -/
def fromE (fr : Nat) (es : List E) (k : Nat) : Nat := match k with
  | 0 => fr
  | k + 1 => match es[k]? with
    | some e => e.seq + 1
    | none => fr
theorem fromE_succ {fr : Nat} {es : List E} {k : Nat} {e : E} (h : es[k]? = some e) : fromE fr es (k + 1) = e.seq + 1 := by
  show (match es[k]? with | some e => e.seq + 1 | none => fr) = _
  rw [h]
theorem inM_at {nx fr : Nat} {es : List E} : ∀ (k : Nat), k ≤ es.length → inM nx fr es → inM nx (fromE fr es k) (es.drop k)
  | 0, _, h => h
  | k + 1, hk, h => by
    have ih := inM_at k (by omega) h
    rw [List.drop_eq_getElem_cons (show k < es.length by omega)] at ih
    rw [fromE_succ (e := es[k]) (by simp)]
    exact ih.2.2.2
theorem inM_all {nx : Nat} : ∀ {es : List E} {fr : Nat}, (∀ k e, es[k]? = some e → fromE fr es k ≤ e.seq ∧ e.seq < nx ∧ e.data.size ≤ 65535) → inM nx fr es
  | [], fr, h => trivial
  | e :: t, fr, h => by
    obtain ⟨h1, h2, h3⟩ := h 0 e rfl
    refine ⟨h1, h2, h3, inM_all fun k x hx => ?_⟩
    have := h (k + 1) x (by simpa using hx)
    cases k with
    | zero => exact this
    | succ k =>
      have e1 : fromE fr (e :: t) (k + 1 + 1) = fromE (e.seq + 1) t (k + 1) := by
        show (match (e :: t)[k + 1]? with | some e => e.seq + 1 | none => fr) = (match t[k]? with | some x => x.seq + 1 | none => e.seq + 1)
        rw [List.getElem?_cons_succ]
        cases hk : t[k]? with
        | none =>
          have hl := (List.getElem?_eq_some_iff.1 hx).1
          rw [List.getElem?_eq_none_iff] at hk
          omega
        | some y => rfl
      rw [e1] at this
      exact this

/-- what areIn answers -/
def AreP (nx fr : Int) (es : List E) (w : World) (e : Ending) (w' : World) : Prop := ∃ b : Bool, e = .returned (.bool b) ∧ ((es.length ≤ 1024 ∧ nx ≤ 4611686018427387904 ∧ inM nx.toNat fr.toNat es) → b = true) ∧ (b = true → es.length ≤ 1024 ∧ inM nx.toNat fr.toNat es) ∧ Below w.heap.size w w'
/-- what Check answers -/
def CkP (P : Prop) (w : World) (e : Ending) (w' : World) : Prop := ∃ c, e = .returned (.int .i64 c) ∧ ((P ∧ c = 0) ∨ (¬ P ∧ c = 6)) ∧ Below w.heap.size w w'
set_option maxHeartbeats 4000000 in
theorem areIn_any (w : World) (ad : Option Addr) (n cap : Nat) (l : L) (h : LIn w ad n cap l) (ad2 : Option Addr) (n2 cap2 : Nat) (es : List E) (he : EIn w w.heap.size ad2 n2 cap2 es) (hfit : ∀ e ∈ es, EFit e) :
    Calls Tryz.prog 51 #[.agg (l.cells (.slice ad n cap)), .slice ad2 n2 cap2] w (AreP l.nx l.fr es w) := by
  obtain ⟨⟨fs, down, fuse, fault⟩, size, fr, nx, broken⟩ := l
  obtain ⟨F, hF⟩ : ∃ F : Nat, fr = (F : Int) := ⟨fr.toNat, by have := h.f0; simp only at this; omega⟩
  obtain ⟨X, hX⟩ : ∃ X : Nat, nx = (X : Int) := ⟨nx.toNat, by have := h.n0; simp only at this; omega⟩
  subst hF hX
  have hx1 := h.n1
  have hf1 := h.f1
  simp only [] at hx1 hf1
  have hb0 : Below w.heap.size w (w.alloc (.cells (lcells (.slice ad n cap) down fuse fault size (F : Int) (X : Int) broken) 27)) := (Below.refl _ w).alloc (Nat.le_refl _) _
  have hx := blk_new w (.cells (lcells (.slice ad n cap) down fuse fault size (F : Int) (X : Int) broken) 27)
  have HE := Lib.hid he
  have HB0 := Lib.hid hb0
  have Hx := Lib.hid hx
  have Hfit := Lib.hid hfit
  have Hn := Lib.hid he.1
  obtain ⟨d0, d1, d2, d3, d4, d5, d6, d7⟩ := box8 hx
  clear h he hb0 hx hfit
  go_enter Tryz.func51, Tryz.ntmps51
  by_cases hl : n2 ≤ 1024
  rotate_left
  · have hl2 : (1024 : Int) < (n2 : Int) := by omega
    go_wp2
    go_ret
    exact ⟨false, rfl, (fun h => by have := Hn.out; omega), (fun h => by cases h), HB0.out⟩
  have hl2 : ¬ (1024 : Int) < (n2 : Int) := by omega
  go_upto_region 1 with (fail)
  obtain ⟨W0, hW0⟩ : ∃ W, W = w.alloc (.cells (lcells (.slice ad n cap) down fuse fault size (F : Int) (X : Int) broken) 27) := ⟨_, rfl⟩
  rw [← hW0] at HB0 Hx d0 d1 d2 d3 d4 d5 d6 d7 ⊢
  have HW0 := Lib.hid hW0
  clear hW0
  go_wp2
  go_loopw [5, 15] (fun f i wr => ∃ k : Nat, i = .int .i64 (k : Int) ∧ k ≤ n2 ∧ f = .int .u64 ((fromE F es k : Nat) : Int) ∧ (∀ j e, j < k → es[j]? = some e → fromE F es j ≤ e.seq ∧ e.seq < X ∧ e.data.size ≤ 65535) ∧ Below W0.heap.size W0 wr) (fun _ i _ => n2 - (intOf i).toNat)
  case atStart => exact ⟨0, rfl, Nat.zero_le _, rfl, fun j e hj => by omega, Below.refl _ _⟩
  case round =>
    obtain ⟨k, rfl, hk, rfl, hall, hbel⟩ := hrel
    have Hall := Lib.hid hall
    have Hbel := Lib.hid hbel
    have HBr := Lib.hid (HB0.out.trans (hbel.mono HB0.out.size))
    obtain ⟨d0, d1, d2, d3, d4, d5, d6, d7⟩ := box8 ((hbel.block _ (Array.getElem?_eq_some_iff.1 Hx.out).1).trans Hx.out)
    have hlw : w.heap.size < wr.heap.size := by have := (Array.getElem?_eq_some_iff.1 Hx.out).1; have := hbel.size; omega
    clear hall hbel
    obtain ⟨M, hM⟩ : ∃ M, fromE F es k = M := ⟨_, rfl⟩
    rw [hM]
    have HM := Lib.hid hM
    clear hM
    by_cases hlt : k < n2
    · obtain ⟨e, he⟩ : ∃ e, es[k]? = some e := ⟨es[k]'(by have := Hn.out; omega), by simp⟩
      have hne : es ≠ [] := by rintro rfl; simp at he
      obtain ⟨g1, o1, rfl, hg1, hc1⟩ := (HE.out.2.2.2.keep HBr.out) hne
      obtain ⟨q0, q1, q2⟩ := hc1 k e he
      have hfe := Hfit.out e (List.mem_of_getElem? he)
      obtain ⟨fe1, fe2⟩ := hfe
      have Hek := Lib.hid he
      have hg1' : g1 < wr.heap.size := Nat.lt_of_lt_of_le hg1 HBr.out.size
      clear he hc1 hne
      obtain ⟨es1, ed1, el1⟩ := e
      simp only at q0 q1 q2 fe1 fe2
      by_cases c1 : es1 < M
      · have i1 : (es1 : Int) < (M : Int) := by omega
        go_wp2
        go_ret
        refine ⟨false, rfl, fun h => ?_, fun h => (by cases h), ?_⟩
        · have := inM_at k (by have := Hn.out; omega) h.2.2
          rw [Int.toNat_natCast, Int.toNat_natCast] at this
          rw [HM.out, List.drop_eq_getElem_cons (show k < es.length by have := Hn.out; omega)] at this
          have e1 : es[k]'(by have := Hn.out; omega) = ⟨es1, ed1, el1⟩ := (List.getElem?_eq_some_iff.1 Hek.out).2
          rw [e1] at this
          have := this.1
          simp only at this
          omega
        · exact HBr.out.alloc (by omega) _
      · have i1 : ¬ (es1 : Int) < (M : Int) := by omega
        by_cases c2 : X ≤ es1
        · have i2 : (X : Int) ≤ (es1 : Int) := by omega
          go_wp2
          go_ret
          refine ⟨false, rfl, fun h => ?_, fun h => (by cases h), ?_⟩
          · have := (inM_lt h.2.2 (List.mem_of_getElem? Hek.out)).1
            rw [Int.toNat_natCast] at this
            simp only at this
            omega
          · exact HBr.out.alloc (by omega) _
        · have i2 : ¬ (X : Int) ≤ (es1 : Int) := by omega
          by_cases c3 : 65535 < ed1.size
          · have i3 : (65535 : Int) < (ed1.size : Int) := by omega
            go_wp2
            go_ret
            refine ⟨false, rfl, fun h => ?_, fun h => (by cases h), ?_⟩
            · have := (inM_lt h.2.2 (List.mem_of_getElem? Hek.out)).2
              simp only at this
              omega
            · exact HBr.out.alloc (by omega) _
          · have i3 : ¬ (65535 : Int) < (ed1.size : Int) := by omega
            by_cases c4 : X ≤ 18446744073709551615
            rotate_left
            · omega
            have c5 : (es1 : Int) + 1 ≤ 18446744073709551615 := by omega
            have Hbel2 := Lib.hid (Hbel.out.alloc (o := .cells #[.int .u64 (es1 : Int), .string ed1, .bool el1] 39) Hbel.out.size)
            go_wp2
            go_roundw
            case rel =>
              refine ⟨k + 1, by go_num, by omega, by rw [fromE_succ Hek.out]; go_num, fun j e hj hje => ?_, Hbel2.out⟩
              rcases Nat.lt_or_ge j k with q | q
              · exact Hall.out j e q hje
              · obtain rfl : j = k := by omega
                rw [Hek.out] at hje
                injection hje with hje
                subst hje
                rw [HM.out]
                exact ⟨by simp only; omega, by simp only; omega, by simp only; omega⟩
            case measure => simp [intOf]; omega
    · have hkn : k = n2 := by omega
      go_wp2
      go_ret
      refine ⟨true, rfl, fun _ => rfl, fun _ => ⟨by have := Hn.out; omega, by rw [Int.toNat_natCast, Int.toNat_natCast]; exact inM_all fun j e hj => Hall.out j e (by have := (List.getElem?_eq_some_iff.1 hj).1; have := Hn.out; omega) hj⟩, HBr.out⟩

set_option maxHeartbeats 4000000 in
theorem qcheck_any (w : World) (ad : Option Addr) (n cap : Nat) (ad2 : Option Addr) (n2 cap2 : Nat) (q : Q) (h : QIn w ad n cap ad2 n2 cap2 q) :
    Calls Tryz.prog 18 #[.agg (q.cells (.slice ad n cap) (.slice ad2 n2 cap2))] w (CkP (QRight q) w) := by
  obtain ⟨l, es, most⟩ := q
  have hb0 : Below w.heap.size w (w.alloc (.cells (Q.cells ⟨l, es, most⟩ (.slice ad n cap) (.slice ad2 n2 cap2)) 30)) := (Below.refl _ w).alloc (Nat.le_refl _) _
  have hx := blk_new w (.cells (Q.cells ⟨l, es, most⟩ (.slice ad n cap) (.slice ad2 n2 cap2)) 30)
  have HQ := Lib.hid (h.under hb0)
  have Hx := Lib.hid hx
  have Hb0 := Lib.hid hb0
  have hm := h.m
  obtain ⟨m0, m1⟩ := hm
  simp only at m0 m1
  obtain ⟨⟨fs, down, fuse, fault⟩, size, fr, nx, broken⟩ := l
  obtain ⟨d0, d1, d2, d3, d4, d5, d6, d7, d8, d9⟩ := box10 hx
  clear h hb0 hx
  go_enter Tryz.func18, Tryz.ntmps18
  go_wp2_with fail
  refine (lcheck_any _ ad n cap _ HQ.out.l).mono ?_
  rintro e w1 ⟨c, rfl, hc, hb1⟩
  have HQ1 := Lib.hid (HQ.out.under hb1)
  have Hb1 := Lib.hid (Hb0.out.trans (hb1.mono Hb0.out.size))
  replace Hx := Lib.hid ((hb1.block _ (Array.getElem?_eq_some_iff.1 Hx.out).1).trans Hx.out)
  clear d0 d1 d2 d3 d4 d5 d6 d7 d8 d9 hb1
  obtain ⟨d0, d1, d2, d3, d4, d5, d6, d7, d8, d9⟩ := box10 Hx.out
  rcases hc with ⟨hR, rfl⟩ | ⟨hR, rfl⟩
  rotate_left
  · have HR := Lib.hid hR
    clear hR
    go_wp2
    go_ret
    exact ⟨6, rfl, .inr ⟨fun h => HR.out h.1, rfl⟩, Hb1.out⟩
  have HR := Lib.hid hR
  clear hR
  go_wp2_with fail
  refine (isMost_any w1 most).mono ?_
  rintro e w2 ⟨rfl, rfl⟩
  by_cases hS : 1 ≤ most ∧ most ≤ 1024
  rotate_left
  · have e : (decide (1 ≤ most) && decide (most ≤ 1024)) = false := by
      by_cases h1 : 1 ≤ most
      · have : ¬ most ≤ 1024 := fun h => hS ⟨h1, h⟩
        simp [this]
      · simp [h1]
    rw [e]
    clear e
    have HS := Lib.hid hS
    clear hS
    go_wp2
    go_ret
    exact ⟨6, rfl, .inr ⟨fun h => HS.out h.2.1, rfl⟩, Hb1.out⟩
  have e : (decide (1 ≤ most) && decide (most ≤ 1024)) = true := by simp [hS.1, hS.2]
  rw [e]
  clear e
  have HS := Lib.hid hS
  clear hS
  go_wp2_with fail
  refine (areIn_any w1 ad n cap ⟨⟨fs, down, fuse, fault⟩, size, fr, nx, broken⟩ HQ1.out.l ad2 n2 cap2 es HQ1.out.e HQ1.out.fit).mono ?_
  rintro e w2 ⟨b, rfl, hy, hn, hb2⟩
  have Hb2 := Lib.hid (Hb1.out.trans (hb2.mono Hb1.out.size))
  have Hy := Lib.hid hy
  have Hn := Lib.hid hn
  clear hb2 hy hn
  cases b with
  | true =>
    go_wp2
    go_ret
    have hfin : QRight ⟨⟨⟨fs, down, fuse, fault⟩, size, fr, nx, broken⟩, es, most⟩ := ⟨HR.out, HS.out, Hn.out (by trivial)⟩
    exact ⟨0, rfl, .inl ⟨hfin, rfl⟩, Hb2.out⟩
  | false =>
    go_wp2
    go_ret
    exact ⟨6, rfl, .inr ⟨fun h => (by have := Hy.out ⟨h.2.2.1, h.1.2.2.2, h.2.2.2⟩; cases this), rfl⟩, Hb2.out⟩
end Go.Proofs.YtlgbehagflnfgaaGreatDoor

/- QUEUE: THE WALKS OVER slices.Clone at entries, begin; a queue that is being changed. -/
namespace Go.Proofs.YtlgbehagflnfgaaGreatDoor
open Go.RowKit
set_option maxRecDepth 100000
set_option linter.unusedVariables false
set_option linter.unusedSimpArgs false

theorem Tryz.info39 : (Tryz.prog.info? 39).map (fun i => (i.zero, i.size, i.bytes)) = some (some (.agg #[.int .u64 0, .string ⟨#[]⟩, .bool false]), 3, 32) := by kernel_rfl
set_option maxHeartbeats 1000000 in
theorem eclone_some (w : World) (a : Addr) (cap n : Nat) (fs : List E) (hn : n = fs.length) (hf : Els w w.heap.size (some a) fs) (h64 : n ≤ 2000) :
    Calls Tryz.prog 103 #[.slice (some a) n cap] w fun e w' => ∃ v, e = .returned v ∧ ERow w' w.heap.size v fs ∧ Below w.heap.size w w' := by
  obtain ⟨i0, hi, hz0, hz1, hz2⟩ := info_parts Tryz.info39
  have hnews := esrc_cells hf ((Below.refl _ w).alloc (Nat.le_refl _) (.cells #[] 39))
  have Hnews := Lib.hid hnews
  have hl : (fs.flatMap ec).length = n * 3 := by rw [hn]; exact ec_len fs
  have Hl := Lib.hid hl
  have Hn := Lib.hid hn
  clear hn hnews hl
  have hown := World.ownsRow_lit (base := w.heap.size) (e := 39) (size := 3) w #[] 0 (Nat.le_refl _) (by simp [maxLen]) rfl
  have Hown := Lib.hid hown
  clear hown
  have hq : ∀ W, (binOp .eql 28 (.slice (some a) n cap) (.slice none 0 0)).run Tryz.prog W = .ok (.bool false) W := fun W => by kernel_rfl
  go_enter Tryz.func103, Tryz.ntmps103
  go_wp2_with (at_builtin; refine wpList_append_own_at _ rfl _ _ 28 rfl w.heap.size 39 i0 _ 3 32 Tryz.underlying28 hi hz0 hz1 hz2 rfl (by decide) (.slice (some ⟨w.heap.size, 0, none⟩) 0 0) 0 _ rfl Hown.out a n cap (fs.flatMap ec) rfl Hl.out Hnews.out (ec_one fs) (by simp [maxLen]; omega) (by omega) (by simp) ?_)
  intro v' w' h1 h2 _ _
  have Hb := Lib.hid (((Below.refl w.heap.size w).alloc (Nat.le_refl _) (.cells #[] 39)).grown h2 (by simp) (fun k hk => by simp [Value.ownBlock] at hk; omega))
  have Hr := Lib.hid (show ERow w' w.heap.size v' fs by have := h1; rw [Hn.out] at this; exact this)
  clear h1 h2
  go_wp2
  go_ret
  exact ⟨v', rfl, Hr.out, Hb.out⟩
theorem eclone_nil (w : World) : Calls Tryz.prog 103 #[.slice none 0 0] w fun e w' => e = .returned (.slice none 0 0) ∧ w = w' := by
  have hq : ∀ W, (binOp .eql 28 (.slice none 0 0) (.slice none 0 0)).run Tryz.prog W = .ok (.bool true) W := fun W => by kernel_rfl
  go_enter Tryz.func103, Tryz.ntmps103
  go_wp2
  go_ret
  exact ⟨rfl, rfl⟩
theorem eclone_any (w : World) (ad : Option Addr) (cap n : Nat) (fs : List E) (hi : EIn w w.heap.size ad n cap fs) (h64 : n ≤ 2000) :
    Calls Tryz.prog 103 #[.slice ad n cap] w fun e w' => ∃ v, e = .returned v ∧ ERow w' w.heap.size v fs ∧ Below w.heap.size w w' := by
  obtain ⟨hn, hc, hnil, hf⟩ := hi
  cases ad with
  | some a => exact eclone_some w a cap n fs hn hf h64
  | none =>
    have hc0 := hnil rfl
    subst hc0
    obtain rfl : n = 0 := by omega
    have hx : fs = [] := List.eq_nil_of_length_eq_zero hn.symm
    subst hx
    exact (eclone_nil w).mono fun e w' ⟨h1, h2⟩ => ⟨_, h1, World.ownsRow_nil _ _ _ _, by rw [h2]; exact Below.refl _ _⟩
/-- a queue that is being changed: its box, its lists elsewhere -/
structure QAt (w : World) (base g : Nat) (ad : Option Addr) (n cap : Nat) (u : Value) (q : Q) : Prop where
  h : w.heap[g]? = some (.cells (q.cells (.slice ad n cap) u) 127 (0, 0))
  l : LIn w ad n cap q.l
  vo : (Value.slice ad n cap).ownBlock ≠ some g
  row : ERow w base u q.es
  uo : u.ownBlock ≠ some g
  vu : ∀ b, (Value.slice ad n cap).ownBlock = some b → u.ownBlock ≠ some b
  vl : ∀ b, (Value.slice ad n cap).ownBlock = some b → b < w.heap.size
  vb : ∀ b, (Value.slice ad n cap).ownBlock = some b → base ≤ b
  bg : base ≤ g
  fit : ∀ e ∈ q.es, EFit e
  m : Num q.most
theorem QAt.lt {w : World} {base g : Nat} {ad : Option Addr} {n cap : Nat} {u : Value} {q : Q} (h : QAt w base g ad n cap u q) : g < w.heap.size := (Array.getElem?_eq_some_iff.1 h.h).1
theorem ERow.below {w w' : World} {base : Nat} {v : Value} {fs : List E} (h : ERow w base v fs) (hb : Below w.heap.size w w') : ERow w' base v fs :=
  h.kept (row := none) ⟨hb.os, hb.tape, hb.output, hb.size, fun k hk _ => hb.block k hk⟩ (by cases e : v.ownBlock <;> simp)
theorem QAt.under {w w' : World} {base g : Nat} {ad : Option Addr} {n cap : Nat} {u : Value} {q : Q} (h : QAt w base g ad n cap u q) (hb : Below w.heap.size w w') : QAt w' base g ad n cap u q :=
  ⟨(hb.block _ h.lt).trans h.h, h.l.under hb, h.vo, h.row.below hb, h.uo, h.vu, fun b e => Nat.lt_of_lt_of_le (h.vl b e) hb.size, h.vb, h.bg, h.fit, h.m⟩
/-- a store elsewhere -/
theorem QAt.far {w : World} {base g : Nat} {ad : Option Addr} {n cap : Nat} {u : Value} {q : Q} (h : QAt w base g ad n cap u q) {b o : Nat} {x : Value} (h1 : b ≠ g) (h2 : u.ownBlock ≠ some b) (h3 : (Value.slice ad n cap).ownBlock ≠ some b) : QAt (w.setCell ⟨b, o, none⟩ x) base g ad n cap u q :=
  ⟨(Below.heap_setCell w ⟨b, o, none⟩ x g (Ne.symm h1)).trans h.h, ⟨⟨(h.l.d.i.set h3).mono (by simp [World.setCell]), h.l.d.fit, h.l.d.u0, h.l.d.u1, h.l.d.f0, h.l.d.f1⟩, h.l.s0, h.l.s1, h.l.f0, h.l.f1, h.l.n0, h.l.n1⟩, h.vo, h.row.set_far x h2, h.uo, h.vu, fun b e => by have := h.vl b e; simpa [World.setCell] using this, h.vb, h.bg, h.fit, h.m⟩
theorem QAt.ul {w : World} {base g : Nat} {ad : Option Addr} {n cap : Nat} {u : Value} {q : Q} (h : QAt w base g ad n cap u q) : ∀ b, u.ownBlock = some b → base ≤ b ∧ b < w.heap.size := h.row.lt
/-- what lies elsewhere than in the queue's box and its entries is kept -/
structure Kq (g : Nat) (u : Value) (w w' : World) : Prop where
  os : w'.os = w.os
  tape : w'.tape = w.tape
  output : w'.output = w.output
  size : w.heap.size ≤ w'.heap.size
  block : ∀ k, k < w.heap.size → k ≠ g → u.ownBlock ≠ some k → w'.heap[k]? = w.heap[k]?
theorem Kq.refl (g : Nat) (u : Value) (w : World) : Kq g u w w := ⟨rfl, rfl, rfl, Nat.le_refl _, fun _ _ _ _ => rfl⟩
theorem Kq.of_below {g : Nat} {u : Value} {w w' : World} (h : Below w.heap.size w w') : Kq g u w w' := ⟨h.os, h.tape, h.output, h.size, fun k hk _ _ => h.block k hk⟩
theorem Kq.of_box {g : Nat} {u : Value} {w w' : World} (h : w.grownBy w' (some g)) : Kq g u w w' := ⟨h.os, h.tape, h.output, h.size, fun k hk h1 _ => h.block k hk (fun e => by injection e with e; exact h1 e)⟩
theorem Kq.of_row {g : Nat} {u : Value} {w w' : World} (h : w.grownBy w' u.ownBlock) : Kq g u w w' := ⟨h.os, h.tape, h.output, h.size, fun k hk _ h2 => h.block k hk (fun e => h2 e.symm)⟩
theorem Kq.far {g : Nat} {u : Value} {w w' : World} (h : Kq g u w w') {b o : Nat} {x : Value} (hb : w.heap.size ≤ b) : Kq g u w (w'.setCell ⟨b, o, none⟩ x) :=
  ⟨h.os, h.tape, h.output, by simp [World.setCell]; exact h.size, fun k hk h1 h2 => (Below.heap_setCell w' ⟨b, o, none⟩ x k (by simp only; omega)).trans (h.block k hk h1 h2)⟩
theorem Kq.trans {g : Nat} {u u1 : Value} {w w1 w2 : World} (h : Kq g u w w1) (h2 : Kq g u1 w1 w2) (hu : ∀ b, u1.ownBlock = some b → u.ownBlock = some b ∨ w.heap.size ≤ b) : Kq g u w w2 :=
  ⟨h2.os.trans h.os, h2.tape.trans h.tape, h2.output.trans h.output, Nat.le_trans h.size h2.size, fun k hk h3 h4 => (h2.block k (Nat.lt_of_lt_of_le hk h.size) h3 (fun e => by
    rcases hu k e with q | q
    · exact h4 q
    · omega)).trans (h.block k hk h3 h4)⟩
theorem Kq.alloc {g : Nat} {u : Value} {w w' : World} (h : Kq g u w w') (ob : Obj) : Kq g u w (w'.alloc ob) :=
  h.trans (Kq.of_below (u := .slice none 0 0) ((Below.refl _ w').alloc (Nat.le_refl _) ob)) (fun b e => by simp [Value.ownBlock] at e)
theorem Kq.below {g : Nat} {u : Value} {w0 w w' : World} {B : Nat} (h : Kq g u w w') (h0 : Below B w0 w) (hB : B ≤ w.heap.size) (hg : B ≤ g) (hu : ∀ b, u.ownBlock = some b → B ≤ b) : Below B w0 w' :=
  h0.trans ⟨h.os, h.tape, h.output, h.size, fun k hk => h.block k (by omega) (by omega) (fun e => by have := hu k e; omega)⟩
/-- the row's block is the call's own, or new -/
def OwnOr (w : World) (u u1 : Value) : Prop := ∀ b, u1.ownBlock = some b → u.ownBlock = some b ∨ w.heap.size ≤ b

set_option maxHeartbeats 4000000 in
theorem qbegin_any (w : World) (ad : Option Addr) (n cap : Nat) (ad2 : Option Addr) (n2 cap2 : Nat) (q : Q) (h : QIn w ad n cap ad2 n2 cap2 q) (h1 : n ≤ 1000) (h2 : n2 ≤ 2000) :
    Calls Tryz.prog 73 #[.agg (q.cells (.slice ad n cap) (.slice ad2 n2 cap2))] w fun e w' => ∃ g ad3 n3 cap3 u, e = .returned (.pointer (some ⟨g, 0, none⟩)) ∧ QAt w' w.heap.size g ad3 n3 cap3 u q ∧ (∀ b, (Value.slice ad3 n3 cap3).ownBlock = some b → w.heap.size ≤ b) ∧ Below w.heap.size w w' := by
  have hQ0 := h
  obtain ⟨l, es, most⟩ := q
  have hb0 : Below w.heap.size w (w.alloc (.cells (Q.cells ⟨l, es, most⟩ (.slice ad n cap) (.slice ad2 n2 cap2)) 30)) := (Below.refl _ w).alloc (Nat.le_refl _) _
  have hx := blk_new w (.cells (Q.cells ⟨l, es, most⟩ (.slice ad n cap) (.slice ad2 n2 cap2)) 30)
  have HQ := Lib.hid (h.under hb0)
  have HQ0 := Lib.hid hQ0
  have Hx := Lib.hid hx
  have Hb0 := Lib.hid hb0
  obtain ⟨⟨fs, down, fuse, fault⟩, size, fr, nx, broken⟩ := l
  obtain ⟨d0, d1, d2, d3, d4, d5, d6, d7, d8, d9⟩ := box10 hx
  clear h hb0 hx hQ0
  go_enter Tryz.func73, Tryz.ntmps73
  go_wp2_with fail
  refine (clone_any _ ad cap n fs HQ.out.l.d.i h1).mono ?_
  rintro e w1 ⟨v, rfl, hr, hb1⟩
  obtain ⟨ad1, cap1, hv⟩ := hr.form
  subst hv
  have hs0 : (w.alloc (.cells (Q.cells ⟨⟨⟨fs, down, fuse, fault⟩, size, fr, nx, broken⟩, es, most⟩ (.slice ad n cap) (.slice ad2 n2 cap2)) 30)).heap.size = w.heap.size + 1 := by simp
  have hnew : ∀ k, (Value.slice ad1 fs.length cap1).ownBlock = some k → w.heap.size < k ∧ k < w1.heap.size := fun k hk => ⟨by have := (hr.lt k hk).1; rw [hs0] at this; omega, (hr.lt k hk).2⟩
  have Hnew := Lib.hid hnew
  have HQ1 := Lib.hid (HQ.out.under hb1)
  have Hx1 := Lib.hid ((hb1.block _ (Array.getElem?_eq_some_iff.1 Hx.out).1).trans Hx.out)
  have Hb1 := Lib.hid (Hb0.out.trans (hb1.mono Hb0.out.size))
  have Hr := Lib.hid (hr.set_far (g := w.heap.size) (o := 0) (.slice ad1 fs.length cap1) (fun e => by have := (hnew _ e).1; omega))
  have Hi := Lib.hid (Inp.of_row hr)
  clear hr hb1 hnew hs0 d0 d1 d2 d3 d4 d5 d6 d7 d8 d9
  obtain ⟨d0, d1, d2, d3, d4, d5, d6, d7, d8, d9⟩ := box10 Hx1.out
  have hlx := (Array.getElem?_eq_some_iff.1 Hx1.out).1
  have f0 := frozen_of_row w1 w.heap.size 0 _ 30 Hx1.out
  go_upto_region 2 with (fail)
  obtain ⟨X, hX⟩ : ∃ X, X = w1.setCell ⟨w.heap.size, 0, none⟩ (.slice ad1 fs.length cap1) := ⟨_, rfl⟩
  rw [← hX]
  have HrX := Lib.hid (show FRow X _ (.slice ad1 fs.length cap1) fs from by rw [hX]; exact Hr.out)
  have HxX := Lib.hid (show X.heap[w.heap.size]? = some (.cells (qcells (.slice ad1 fs.length cap1) down fuse fault size fr nx broken (.slice ad2 n2 cap2) most) 30 (0, 0)) from by rw [hX]; exact heap_setCell_same _ _ 0 _ 30 _ Hx1.out)
  have HbX := Lib.hid (show Below w.heap.size w X from by rw [hX]; exact Hb1.out.setCell (Nat.le_refl _) _)
  have HeX := Lib.hid (show EIn X X.heap.size ad2 n2 cap2 es from HQ0.out.e.under HbX.out)
  have HsX := Lib.hid (show X.heap.size = w1.heap.size from by rw [hX]; simp [World.setCell])
  clear hX d0 d1 d2 d3 d4 d5 d6 d7 d8 d9 f0 hlx Hr Hx1 HQ1
  obtain ⟨d0, d1, d2, d3, d4, d5, d6, d7, d8, d9⟩ := box10 HxX.out
  have hlx := (Array.getElem?_eq_some_iff.1 HxX.out).1
  go_wp2_with fail
  refine (eclone_any X ad2 cap2 n2 es HeX.out h2).mono ?_
  rintro e w2 ⟨uv, rfl, hr2, hb2⟩
  obtain ⟨adu, capu, hu⟩ := hr2.form
  subst hu
  have Hr2 := Lib.hid hr2
  have Hb2 := Lib.hid (HbX.out.trans (hb2.mono HbX.out.size))
  have Hx2 := Lib.hid ((hb2.block _ hlx).trans HxX.out)
  have HF2 := Lib.hid (HrX.out.below hb2)
  have HXs := Lib.hid hb2.size
  have Hun := Lib.hid (show ∀ k, (Value.slice adu es.length capu).ownBlock = some k → w.heap.size < k ∧ X.heap.size ≤ k from fun k hk => ⟨by have := (hr2.lt k hk).1; omega, (hr2.lt k hk).1⟩)
  clear hr2 hb2 d0 d1 d2 d3 d4 d5 d6 d7 d8 d9 hlx
  obtain ⟨d0, d1, d2, d3, d4, d5, d6, d7, d8, d9⟩ := box10 Hx2.out
  have hlx := (Array.getElem?_eq_some_iff.1 Hx2.out).1
  have f8 := frozen_of_row w2 w.heap.size 8 _ 30 Hx2.out
  go_upto_region 3 with (fail)
  obtain ⟨Y, hY⟩ : ∃ Y, Y = w2.setCell ⟨w.heap.size, 8, none⟩ (.slice adu es.length capu) := ⟨_, rfl⟩
  rw [← hY]
  have HxY := Lib.hid (show Y.heap[w.heap.size]? = some (.cells (qcells (.slice ad1 fs.length cap1) down fuse fault size fr nx broken (.slice adu es.length capu) most) 30 (0, 0)) from by rw [hY]; exact heap_setCell_same _ _ 8 _ 30 _ Hx2.out)
  have HbY := Lib.hid (show Below w.heap.size w Y from by rw [hY]; exact Hb2.out.setCell (Nat.le_refl _) _)
  have HsY := Lib.hid (show Y.heap.size = w2.heap.size from by rw [hY]; simp [World.setCell])
  have HFY := Lib.hid (show FRow Y _ (.slice ad1 fs.length cap1) fs from by rw [hY]; exact HF2.out.set_far _ (fun e => by have := (Hnew.out _ e).1; omega))
  have HEY := Lib.hid (show ERow Y _ (.slice adu es.length capu) es from by rw [hY]; exact Hr2.out.set_far _ (fun e => by have := (Hun.out _ e).1; omega))
  clear hY d0 d1 d2 d3 d4 d5 d6 d7 d8 d9 hlx f8 Hr2 HF2 Hx2
  obtain ⟨d0, d1, d2, d3, d4, d5, d6, d7, d8, d9⟩ := box10 HxY.out
  have hlx := (Array.getElem?_eq_some_iff.1 HxY.out).1
  go_wp2
  go_ret
  have hb4 : Below Y.heap.size Y (Y.alloc (.cells (qcells (.slice ad1 fs.length cap1) down fuse fault size fr nx broken (.slice adu es.length capu) most) 127)) := (Below.refl _ Y).alloc (Nat.le_refl _) _
  obtain ⟨adq, capq, hvq, hIq⟩ := Inp.of_row HFY.out
  injection hvq with e1 _ e3
  subst e1 e3
  refine ⟨Y.heap.size, ad1, fs.length, cap1, (.slice adu es.length capu), rfl, ⟨blk_new Y _, ⟨⟨hIq.under hb4, HQ0.out.l.d.fit, HQ0.out.l.d.u0, HQ0.out.l.d.u1, HQ0.out.l.d.f0, HQ0.out.l.d.f1⟩, HQ0.out.l.s0, HQ0.out.l.s1, HQ0.out.l.f0, HQ0.out.l.f1, HQ0.out.l.n0, HQ0.out.l.n1⟩, ?_, ?_, ?_, ?_, ?_, ?_, ?_, HQ0.out.fit, HQ0.out.m⟩, ?_, HbY.out.trans (hb4.mono HbY.out.size)⟩
  · intro e; have h3 := (Hnew.out _ e).2; have h4 := HsX.out; have h5 := HXs.out; have h6 := HsY.out; omega
  · exact (World.ownsRow.mono HEY.out (by have := HbX.out.size; omega)).alloc _
  · intro e; have h3 := (HEY.out.lt _ e).2; omega
  · intro b e e2; have h3 := (Hnew.out _ e).2; have h4 := HsX.out; have h5 := (Hun.out _ e2).2; omega
  · intro b e; have h3 := (Hnew.out _ e).2; have h4 := HsX.out; have h5 := HXs.out; have h6 := HsY.out; simp; omega
  · intro b e; have := (Hnew.out _ e).1; omega
  · have := HbY.out.size; omega
  · intro b e; have := (Hnew.out _ e).1; omega
end Go.Proofs.YtlgbehagflnfgaaGreatDoor

/- QUEUE: THE WALKS OVER fail.Unless, On; IndexFunc at entries, find, leased, lease, release. -/
namespace Go.Proofs.YtlgbehagflnfgaaGreatDoor
open Go.RowKit
set_option maxRecDepth 100000
set_option linter.unusedVariables false
set_option linter.unusedSimpArgs false

abbrev pan (c : Int) : Ending := .panicked [{ v := .iface 35 (.int .i64 c), recovered := false }]
theorem unless_yes (e : Int) (w : World) : Calls Tryz.prog 76 #[.bool true, .int .i64 e] w fun en w' => en = .returned (.tuple #[]) ∧ w = w' := by
  go_enter Tryz.func76, Tryz.ntmps76
  go_wp2
  go_end0
  exact ⟨rfl, rfl⟩
theorem unless_no (e : Int) (w : World) : Calls Tryz.prog 76 #[.bool false, .int .i64 e] w fun en w' => en = pan e ∧ w = w' := by
  go_enter Tryz.func76, Tryz.ntmps76
  go_wp2
  exact ⟨rfl, rfl, rfl⟩
theorem on_ok (w : World) : Calls Tryz.prog 44 #[.int .i64 0] w fun en w' => en = .returned (.tuple #[]) ∧ w = w' := by
  go_enter Tryz.func44, Tryz.ntmps44
  go_wp2_with fail
  refine (unless_yes 0 w).mono ?_
  rintro e w' ⟨rfl, rfl⟩
  go_wp2
  go_end0
  exact ⟨rfl, rfl⟩
theorem on_no (c : Int) (hc : (c == 0) = false) (w : World) : Calls Tryz.prog 44 #[.int .i64 c] w fun en w' => en = pan c ∧ w = w' := by
  go_enter Tryz.func44, Tryz.ntmps44
  go_wp2_with fail
  refine (unless_no c w).mono ?_
  rintro e w' ⟨rfl, rfl⟩
  go_wp2
  exact ⟨rfl, rfl, rfl⟩
/-- how an operation ends: with its value, or with the error -/
def Ends (c : Int) (v : Value) (e : Ending) : Prop := (c = 0 ∧ e = .returned v) ∨ (c ≠ 0 ∧ e = pan c)

/-- a test of an entry: a closure -/
structure Test (C : Nat) (cap : Array Value) (p : E → Bool) (w : World) : Prop where
  ent : ∀ (args : Array Value) (W : World), (callFunc C args).run Tryz.prog W = .ok (.enter C args) W
  ok : ∀ (W : World) (e : E), Below w.heap.size w W → Calls Tryz.prog C (#[.agg #[.int .u64 (e.seq : Int), .string e.data, .bool e.leased]] ++ cap) W fun en w' => en = .returned (.bool (p e)) ∧ Below W.heap.size W w'
theorem Test.under {C : Nat} {cap : Array Value} {p : E → Bool} {w w' : World} (h : Test C cap p w) (hb : Below w.heap.size w w') : Test C cap p w' := ⟨h.ent, fun W e hW => h.ok W e (hb.trans (hW.mono hb.size))⟩
theorem test79 (w : World) : Test 79 #[] (fun e => !e.leased) w := ⟨fun args W => by kernel_rfl, fun W e _ => by
  show Calls Tryz.prog 79 #[.agg #[.int .u64 (e.seq : Int), .string e.data, .bool e.leased]] W _
  obtain ⟨s, d, b⟩ := e
  have hx := blk_new W (.cells #[.int .u64 (s : Int), .string d, .bool b] 39)
  have c2 := cell_of_row _ W.heap.size 2 _ 39 (0, 0) hx
  simp at c2
  clear hx
  cases b
  all_goals
    go_enter Tryz.func79, Tryz.ntmps79
    go_wp2
    go_ret
    exact ⟨rfl, (Below.refl _ W).alloc (Nat.le_refl _) _⟩⟩
theorem test107 (w : World) (bx s : Nat) (hbx : bx < w.heap.size) (hc : w.cell? ⟨bx, 0, none⟩ = some (.int .u64 (s : Int))) : Test 107 #[.pointer (some ⟨bx, 0, none⟩)] (fun e => e.leased && decide (e.seq = s)) w := ⟨fun args W => by kernel_rfl, fun W e hW => by
  show Calls Tryz.prog 107 #[.agg #[.int .u64 (e.seq : Int), .string e.data, .bool e.leased], .pointer (some ⟨bx, 0, none⟩)] W _
  obtain ⟨es, d, b⟩ := e
  have hx := blk_new W (.cells #[.int .u64 (es : Int), .string d, .bool b] 39)
  have c0 := cell_of_row _ W.heap.size 0 _ 39 (0, 0) hx
  have c2 := cell_of_row _ W.heap.size 2 _ 39 (0, 0) hx
  simp at c0 c2
  have hlb : bx < W.heap.size := Nat.lt_of_lt_of_le hbx hW.size
  have hcb : (W.alloc (.cells #[.int .u64 (es : Int), .string d, .bool b] 39)).cell? ⟨bx, 0, none⟩ = some (.int .u64 (s : Int)) := by
    refine (((Below.refl W.heap.size W).alloc (Nat.le_refl _) _).cell (p := ⟨bx, 0, none⟩) hlb).trans ?_
    exact (hW.cell (p := ⟨bx, 0, none⟩) hbx).trans hc
  clear hx hc
  cases b
  · go_enter Tryz.func107, Tryz.ntmps107
    go_wp2
    go_ret
    exact ⟨rfl, (Below.refl _ W).alloc (Nat.le_refl _) _⟩
  · by_cases h : es = s
    · have h1 : ((es : Int) == (s : Int)) = true := by simp [h]
      have h2 : (true && decide (es = s)) = true := by simp [h]
      show Calls Tryz.prog 107 _ W fun en w' => en = .returned (.bool (true && decide (es = s))) ∧ _
      rw [h2]
      clear h h2
      go_enter Tryz.func107, Tryz.ntmps107
      go_wp2
      go_ret
      exact ⟨rfl, (Below.refl _ W).alloc (Nat.le_refl _) _⟩
    · have h1 : ((es : Int) == (s : Int)) = false := by simp; omega
      have h2 : (true && decide (es = s)) = false := by simp [h]
      show Calls Tryz.prog 107 _ W fun en w' => en = .returned (.bool (true && decide (es = s))) ∧ _
      rw [h2]
      clear h h2
      go_enter Tryz.func107, Tryz.ntmps107
      go_wp2
      go_ret
      exact ⟨rfl, (Below.refl _ W).alloc (Nat.le_refl _) _⟩⟩

/-- the place, or -1 -/
def atI (o : Option Nat) : Int := match o with
  | some i => (i : Int)
  | none => -1
set_option maxHeartbeats 4000000 in
theorem index_any (w : World) (ad : Option Addr) (n cap : Nat) (es : List E) (he : EIn w w.heap.size ad n cap es) (h64 : n ≤ 2000) (C : Nat) (cp : Array Value) (p : E → Bool) (hT : Test C cp p w) :
    Calls Tryz.prog 106 #[.slice ad n cap, .func (.func C) #[] cp] w fun e w' => e = .returned (.int .i64 (atI (es.findIdx? p))) ∧ Below w.heap.size w w' := by
  have HE := Lib.hid he
  have Hn := Lib.hid he.1
  have HT := Lib.hid hT
  have hent := hT.ent
  clear he hT
  go_enter Tryz.func106, Tryz.ntmps106
  go_wp2
  go_loopw [8] (fun i wr => ∃ k : Nat, i = .int .i64 (k : Int) ∧ k ≤ n ∧ (∀ j e, j < k → es[j]? = some e → p e = false) ∧ Below w.heap.size w wr) (fun i _ => n - (intOf i).toNat)
  case atStart => exact ⟨0, rfl, Nat.zero_le _, fun j e hj => by omega, Below.refl _ _⟩
  case round =>
    obtain ⟨k, rfl, hk, hall, hbel⟩ := hrel
    have Hall := Lib.hid hall
    have Hbel := Lib.hid hbel
    clear hall hbel
    by_cases hlt : k < n
    · obtain ⟨e, he⟩ : ∃ e, es[k]? = some e := ⟨es[k]'(by have := Hn.out; omega), by simp⟩
      have hne : es ≠ [] := by rintro rfl; simp at he
      obtain ⟨g1, o1, rfl, hg1, hc1⟩ := (HE.out.2.2.2.keep Hbel.out) hne
      obtain ⟨q0, q1, q2⟩ := hc1 k e he
      have Hek := Lib.hid he
      clear he hc1 hne
      go_wp2_with fail
      refine (HT.out.ok _ e Hbel.out).mono ?_
      rintro en w1 ⟨rfl, hb1⟩
      have Hb1 := Lib.hid (Hbel.out.trans (hb1.mono Hbel.out.size))
      clear hb1 q0 q1 q2
      obtain ⟨b, hb⟩ : ∃ b, p e = b := ⟨_, rfl⟩
      rw [hb]
      have HB := Lib.hid hb
      clear hb
      cases b with
      | true =>
        have hfin : es.findIdx? p = some k := by
          rw [List.findIdx?_eq_some_iff_getElem]
          have hl : k < es.length := by have := Hn.out; omega
          refine ⟨hl, ?_, fun j hj => ?_⟩
          · have := (List.getElem?_eq_some_iff.1 Hek.out).2
            rw [this]; exact HB.out
          · have := Hall.out j _ hj (List.getElem?_eq_getElem (by omega))
            rw [this]; decide
        have Hfin := Lib.hid hfin
        clear hfin
        go_wp2
        go_ret
        exact ⟨by rw [Hfin.out]; rfl, Hb1.out⟩
      | false =>
        go_wp2
        go_roundw
        case rel =>
          refine ⟨k + 1, by go_num, by omega, fun j x hj hjx => ?_, Hb1.out⟩
          rcases Nat.lt_or_ge j k with q | q
          · exact Hall.out j x q hjx
          · obtain rfl : j = k := by omega
            rw [Hek.out] at hjx
            injection hjx with hjx
            subst hjx
            exact HB.out
        case measure => simp [intOf]; omega
    · have hkn : k = n := by omega
      have hfin : es.findIdx? p = none := by
        rw [List.findIdx?_eq_none_iff]
        intro x hx
        obtain ⟨j, hj, rfl⟩ := List.mem_iff_getElem.1 hx
        exact Hall.out j _ (by have := Hn.out; omega) (List.getElem?_eq_getElem hj)
      have Hfin := Lib.hid hfin
      clear hfin
      go_wp2
      go_ret
      exact ⟨by rw [Hfin.out]; rfl, Hbel.out⟩

/-- a place, or the error -/
def FnP (o : Option Nat) (why : Int) (w : World) (e : Ending) (w' : World) : Prop := ((∃ i, o = some i ∧ e = .returned (.int .i64 (i : Int))) ∨ (o = none ∧ e = pan why)) ∧ Below w.heap.size w w'
/-- find: the place, or the error -/
theorem qfind_any (w : World) (base g : Nat) (ad : Option Addr) (n cap : Nat) (u : Value) (q : Q) (h : QAt w base g ad n cap u q) (h64 : q.es.length ≤ 2000) (why : Int) (C : Nat) (cp : Array Value) (p : E → Bool) (hT : Test C cp p w) :
    Calls Tryz.prog 78 #[.pointer (some ⟨g, 0, none⟩), .int .i64 why, .func (.func C) #[] cp] w (FnP (q.es.findIdx? p) why w) := by
  have H := Lib.hid h
  have HT := Lib.hid hT
  obtain ⟨adu, capu, hu, hE⟩ := EIn.of_row h.row
  subst hu
  have HE := Lib.hid hE
  obtain ⟨N, hN⟩ : ∃ N, q.es.length = N := ⟨_, rfl⟩
  rw [hN] at hE h64
  have HN := Lib.hid hN
  obtain ⟨d0, d1, d2, d3, d4, d5, d6, d7, d8, d9⟩ := box10 h.h
  rw [hN] at d8
  have hlg := h.lt
  clear h hT hE hN
  go_enter Tryz.func78, Tryz.ntmps78
  go_wp2_with fail
  refine (index_any w adu N capu q.es (by rw [← HN.out]; exact HE.out) h64 C cp p HT.out).mono ?_
  rintro e w1 ⟨rfl, hb1⟩
  have Hb1 := Lib.hid hb1
  clear hb1 d0 d1 d2 d3 d4 d5 d6 d7 d8 d9
  cases hf : q.es.findIdx? p with
  | none =>
    have Hf := Lib.hid hf
    rw [show atI none = -1 from rfl]
    clear hf
    go_wp2_with fail
    refine (unless_no why w1).mono ?_
    rintro e w2 ⟨rfl, rfl⟩
    go_wp2
    exact ⟨rfl, .inr ⟨Hf.out, rfl⟩, Hb1.out⟩
  | some i =>
    have hi : i < N := by
      have := (List.findIdx?_eq_some_iff_getElem.1 hf).1
      rw [HN.out] at this; exact this
    have Hf := Lib.hid hf
    rw [show atI (some i) = (i : Int) from rfl]
    have hi0 : (0 : Int) ≤ (i : Int) := by omega
    clear hf
    go_wp2_with fail
    refine (unless_yes why w1).mono ?_
    rintro e w2 ⟨rfl, rfl⟩
    go_wp2
    go_ret
    exact ⟨.inl ⟨i, Hf.out, rfl⟩, Hb1.out⟩
/-- leased: where an entry is that is leased, and of that number -/
theorem leased_any (w : World) (base g : Nat) (ad : Option Addr) (n cap : Nat) (u : Value) (q : Q) (h : QAt w base g ad n cap u q) (h64 : q.es.length ≤ 2000) (s : Nat) (hs : s < 18446744073709551616) :
    Calls Tryz.prog 80 #[.pointer (some ⟨g, 0, none⟩), .int .u64 (s : Int)] w (FnP (heldAt q.es s) 19 w) := by
  have hb0 : Below w.heap.size w (w.alloc (.cells #[.int .u64 (s : Int)] 25)) := (Below.refl _ w).alloc (Nat.le_refl _) _
  have hx := blk_new w (.cells #[.int .u64 (s : Int)] 25)
  have hc := cell_of_one hx
  have hT := test107 (w.alloc (.cells #[.int .u64 (s : Int)] 25)) w.heap.size s (by simp) hc
  have HF := Lib.hid (qfind_any (w.alloc (.cells #[.int .u64 (s : Int)] 25)) base g ad n cap u q (h.under hb0) h64 19 107 #[.pointer (some ⟨w.heap.size, 0, none⟩)] (fun e => e.leased && decide (e.seq = s)) hT)
  have Hb0 := Lib.hid hb0
  clear hb0 hx hc hT h
  have hmf : ∀ (fn : Fn) (first cap : Array Value) (w : World), (Instr.makeFunc fn first cap).run Tryz.prog w = .ok (.func fn first cap) w := fun _ _ _ _ => rfl
  go_enter Tryz.func80, Tryz.ntmps80
  go_wp2_with fail
  refine HF.out.mono ?_
  rintro e w1 ⟨⟨i, hi, rfl⟩ | ⟨hi, rfl⟩, hb1⟩
  · have Hi := Lib.hid hi
    have Hb1 := Lib.hid (Hb0.out.trans (hb1.mono Hb0.out.size))
    clear hi hb1
    go_wp2
    go_ret
    exact ⟨.inl ⟨i, Hi.out, rfl⟩, Hb1.out⟩
  · have Hi := Lib.hid hi
    have Hb1 := Lib.hid (Hb0.out.trans (hb1.mono Hb0.out.size))
    clear hi hb1
    go_wp2
    exact ⟨rfl, .inr ⟨Hi.out, rfl⟩, Hb1.out⟩
theorem ec_set2 : ∀ (es : List E) (i : Nat) (f : E) (b : Bool), es[i]? = some f → (es.flatMap ec).set (i * 3 + 2) (.bool b) = (es.set i { f with leased := b }).flatMap ec
  | [], i, f, b, h => by simp at h
  | x :: t, 0, f, b, h => by
    simp at h
    subst h
    rw [List.set_cons_zero, List.flatMap_cons, List.flatMap_cons]
    rfl
  | x :: t, i + 1, f, b, h => by
    rw [List.set_cons_succ, List.flatMap_cons, List.flatMap_cons, List.set_append_right _ _ (by simp [ec]; omega), show (i + 1) * 3 + 2 - (ec x).length = i * 3 + 2 by simp [ec]; omega, ec_set2 t i f b (by simpa using h)]
/-- an entry's mark is stored -/
theorem QAt.mark {w : World} {base g : Nat} {ad : Option Addr} {n cap : Nat} {gu capu nu : Nat} {q : Q} (h : QAt w base g ad n cap (.slice (some ⟨gu, 0, none⟩) nu capu) q) {i : Nat} {e : E} (he : q.es[i]? = some e) (b : Bool) :
    QAt (w.setCell ⟨gu, i * 3 + 2, none⟩ (.bool b)) base g ad n cap (.slice (some ⟨gu, 0, none⟩) nu capu) ⟨q.l, q.es.set i { e with leased := b }, q.most⟩ := by
  have hne : q.es ≠ [] := by rintro e1; rw [e1] at he; simp at he
  obtain ⟨g', cap', hv, hbg, hgl, hc, hat, hfz, hset⟩ := h.row.blk hne
  injection hv with e1 e2 e3
  injection e1 with e1
  injection e1 with e1 _ _
  subst e1
  have hgg : g ≠ gu := fun e => h.uo (by rw [e]; rfl)
  obtain ⟨hr, hgr⟩ := hset (i * 3 + 2) (.bool b)
  refine ⟨(Below.heap_setCell w ⟨gu, _, none⟩ _ g hgg).trans h.h, ⟨⟨(h.l.d.i.set (fun e => h.vu _ e rfl)).mono (by simp [World.setCell]), h.l.d.fit, h.l.d.u0, h.l.d.u1, h.l.d.f0, h.l.d.f1⟩, h.l.s0, h.l.s1, h.l.f0, h.l.f1, h.l.n0, h.l.n1⟩, h.vo, ?_, h.uo, h.vu, fun b e => by have := h.vl b e; simpa [World.setCell] using this, h.vb, h.bg, ?_, h.m⟩
  · have h1 := hr
    unfold ERowAt at h1
    rw [ec_set2 q.es i e b he] at h1
    exact ERow.of_own h1
  · intro x hx
    rcases List.mem_or_eq_of_mem_set hx with q1 | q1
    · exact h.fit x q1
    · subst q1; exact h.fit e (List.mem_of_getElem? he)
/-- what an operation leaves: the queue, the list of its files, its entries, elsewhere all as it was -/
def Left (w : World) (base g : Nat) (u : Value) (q : Q) (w' : World) : Prop := ∃ ad n cap u', QAt w' base g ad n cap u' q ∧ Kq g u w w' ∧ OwnOr w u u'
theorem blk3 {w : World} {g : Nat} {x0 x1 x2 : Value} {t : TypeId} (h : w.heap[g]? = some (.cells #[x0, x1, x2] t (0, 0))) :
    (w.cell? ⟨g, 0, none⟩ = some x0 ∧ w.cell? ⟨g, 1, none⟩ = some x1 ∧ w.cell? ⟨g, 2, none⟩ = some x2) ∧ (w.frozen? ⟨g, 0, none⟩ = false ∧ w.frozen? ⟨g, 1, none⟩ = false ∧ w.frozen? ⟨g, 2, none⟩ = false) :=
  ⟨⟨cell_of_row w g 0 _ t (0, 0) h, cell_of_row w g 1 _ t (0, 0) h, cell_of_row w g 2 _ t (0, 0) h⟩, frozen_of_row w g 0 _ t h, frozen_of_row w g 1 _ t h, frozen_of_row w g 2 _ t h⟩
theorem put3 {w : World} {g : Nat} {x0 x1 x2 : Value} {t : TypeId} (h : w.heap[g]? = some (.cells #[x0, x1, x2] t (0, 0))) (v0 v1 v2 : Value) :
    (((w.setCell ⟨g, 0, none⟩ v0).setCell ⟨g, 1, none⟩ v1).setCell ⟨g, 2, none⟩ v2).heap[g]? = some (.cells #[v0, v1, v2] t (0, 0)) :=
  heap_setCell_same _ g 2 _ t _ (heap_setCell_same _ g 1 _ t _ (heap_setCell_same w g 0 _ t _ h))

end Go.Proofs.YtlgbehagflnfgaaGreatDoor
