/- CONF: THE WALK OVER ConfUnits. -/
import Derived.Test.YtegobomfhdfodaaGreatDoorDtb
namespace Go.Proofs.YtegobomfhdfodaaGreatDoor
open Go.RowKit
set_option maxRecDepth 100000
set_option linter.unusedVariables false
set_option linter.unusedSimpArgs false

namespace K
theorem dec_acc : ∀ (l : T) (acc : Nat), dec acc l = acc * 10 ^ l.length + dec 0 l
  | [], acc => by show acc = acc * 1 + 0; omega
  | c :: r, acc => by
    have h1 := dec_acc r (acc * 10 + (c.toNat - 48))
    have h2 := dec_acc r (0 * 10 + (c.toNat - 48))
    show dec (acc * 10 + (c.toNat - 48)) r = acc * 10 ^ (r.length + 1) + dec (0 * 10 + (c.toNat - 48)) r
    rw [h1, h2, Nat.pow_succ]
    obtain ⟨p, hp⟩ : ∃ p, 10 ^ r.length = p := ⟨_, rfl⟩
    obtain ⟨d, hd⟩ : ∃ d, c.toNat - 48 = d := ⟨_, rfl⟩
    rw [hp, hd, Nat.zero_mul, Nat.zero_add, Nat.add_mul, Nat.mul_assoc, Nat.mul_comm 10 p, Nat.add_assoc]
theorem dec_nil (a : Nat) : dec a [] = a := rfl
theorem dig_app {t u : T} (h : ∀ c ∈ t, isDig c.toNat = true) (hu : ∀ c ∈ u, isDig c.toNat = true) : ∀ c ∈ t ++ u, isDig c.toNat = true := fun c hc => by
  rcases List.mem_append.1 hc with hc | hc
  · exact h c hc
  · exact hu c hc
theorem unit_app (t u : T) (h : ∀ c ∈ t, isDig c.toNat = true) (hu : unit u = u) : unit (t ++ u) = u ∧ size (t ++ u) = t.length ∧ (t ++ u).take t.length = t := by
  have h1 : unit (t ++ u) = u := by
    have : unit (t ++ u) = unit u := by
      unfold unit Lib.trimLeftS
      exact List.dropWhile_append_of_pos (fun c hc => by rw [digits_dig]; exact h c hc)
    rw [this, hu]
  refine ⟨h1, ?_, List.take_left⟩
  unfold size
  rw [h1, List.length_append]
  omega
theorem lit_mil (t u : T) (k : Nat) (h : ∀ c ∈ t, isDig c.toNat = true) (hu : unit u = u) (hk : mil u = k) (h0 : ¬ k = 0) (h1 : 1 ≤ t.length) (h9 : t.length ≤ 9) : meas mil (t ++ u) = (dec 0 t * k, 0) := by
  obtain ⟨e1, e2, e3⟩ := unit_app t u h hu
  unfold meas
  rw [e1, e2, e3, hk, if_neg (by omega)]
theorem lit_byt (t u : T) (k : Nat) (h : ∀ c ∈ t, isDig c.toNat = true) (hu : unit u = u) (hk : byt u = k) (h0 : ¬ k = 0) (h1 : 1 ≤ t.length) (h9 : t.length ≤ 9) : meas byt (t ++ u) = (dec 0 t * k, 0) := by
  obtain ⟨e1, e2, e3⟩ := unit_app t u h hu
  unfold meas
  rw [e1, e2, e3, hk, if_neg (by omega)]
theorem lit_many (t u : T) (h : ∀ c ∈ t, isDig c.toNat = true) (hu : unit u = u) (h9 : 9 < t.length) : meas mil (t ++ u) = (0, 15) := by
  obtain ⟨e1, e2, e3⟩ := unit_app t u h hu
  unfold meas
  rw [e1, e2, if_pos (.inr (.inl h9))]
theorem dec_000 (t : T) : dec 0 (t ++ [48, 48, 48]) = dec 0 t * 1000 := by
  rw [show t ++ [48, 48, 48] = ((t ++ [48]) ++ [48]) ++ [48] from by simp, dec_snoc, dec_snoc, dec_snoc]
  have : (48 : UInt8).toNat - 48 = 0 := rfl
  rw [this]
  omega
def moreOf (m : Value) : Nat := match m with
  | .bool true => 1
  | _ => 0
end K
theorem dig_of (m : Nat) (h : m < 10) : (UInt8.ofNat (48 + m)).toNat = 48 + m := by simp; omega
theorem enc_dig (m : Nat) (h : m < (⟨#[48, 49, 50, 51, 52, 53, 54, 55, 56, 57]⟩ : ByteArray).size) : Utf8.encode (((⟨#[48, 49, 50, 51, 52, 53, 54, 55, 56, 57]⟩ : ByteArray)[m]'h).toNat : Int) = ⟨#[UInt8.ofNat (48 + m)]⟩ := by
  have h10 : m < 10 := h
  have h1 : ∀ k : Fin 10, Utf8.encode ((48 + k.val : Nat) : Int) = ⟨#[UInt8.ofNat (48 + k.val)]⟩ := by decide
  have h2 : ∀ k : Fin 10, (#[48, 49, 50, 51, 52, 53, 54, 55, 56, 57] : Array UInt8)[k.val]? = some (UInt8.ofNat (48 + k.val)) := by decide
  have h4 : ((⟨#[48, 49, 50, 51, 52, 53, 54, 55, 56, 57]⟩ : ByteArray)[m]'h) = UInt8.ofNat (48 + m) := (Array.getElem?_eq_some_iff.1 (h2 ⟨m, h10⟩)).2
  rw [h4, dig_of m h10]
  exact h1 ⟨m, h10⟩
theorem S_catl (a b : K.T) : Value.string ({ data := a.toArray } ++ { data := b.toArray }) = S (a ++ b) := by
  refine congrArg Value.string (ByteArray.ext ?_)
  rw [ByteArray.data_append, ← List.append_toArray]
theorem S_one (c : UInt8) (t : K.T) : Value.string ({ data := #[c] } ++ { data := t.toArray }) = S (c :: t) := by
  refine congrArg Value.string (ByteArray.ext ?_)
  rw [ByteArray.data_append]
  simp
set_option maxHeartbeats 8000000 in
theorem units_any (w : World) (n : Nat) (tx : Value) (hn : n ≤ 65535) (hT : Tb w) : Calls Tryz.prog 8 #[.int .u16 (n : Int), tx] w fun e w' => e = .returned (.bool true) ∧ Below w.heap.size w w' := by
  have HT := Lib.hid hT
  clear hT
  go_enter Tryz.func8, Tryz.ntmps8
  go_wp2_with fail
  refine (lives_any w HT.out).mono ?_
  rintro e w1 ⟨rfl, hb1⟩
  have HB1 := Lib.hid hb1
  clear hb1
  go_wp2
  go_loopw [5, 6, 7] (fun s x m wr => ∃ (t : K.T) (y : Nat) (b : Bool), s = S t ∧ x = .int .u16 (y : Int) ∧ m = .bool b ∧ (t = [] ∧ b = true ∨ b = decide (0 < y)) ∧ t.length ≤ 5 ∧ K.dec 0 t + y * 10 ^ t.length = n ∧ (∀ c ∈ t, K.isDig c.toNat = true) ∧ (t = [] → b = true) ∧ wr = w1) (fun _ x m _ => (intOf x).toNat + K.moreOf m)
  case atStart => exact ⟨[], n, true, rfl, rfl, rfl, .inl ⟨rfl, rfl⟩, Nat.zero_le _, by rw [K.dec_nil, List.length_nil, Nat.pow_zero, Nat.mul_one, Nat.zero_add], (by intro c hc; cases hc), fun _ => rfl, rfl⟩
  case round =>
    obtain ⟨t, y, b, rfl, rfl, rfl, hmore, hlen, hval, hdig, hb0, hwr⟩ := hrel
    subst wr
    have HV := Lib.hid (And.intro hmore (And.intro hlen (And.intro hval (And.intro hdig hb0))))
    have hy : y ≤ 65535 := by
      have : 1 ≤ 10 ^ t.length := Nat.one_le_pow _ _ (by decide)
      have := Nat.le_mul_of_pos_right y this
      omega
    clear hmore hlen hval hdig hb0
    cases b with
    | true =>
      obtain ⟨hmore, hlen, hval, hdig, hb0⟩ := HV.out
      have h5 : t.length + 1 ≤ 5 := by
        rcases hmore with ⟨rfl, _⟩ | hmore
        · simp
        · have hy0 : 0 < y := of_decide_eq_true hmore.symm
          by_cases h5 : t.length = 5
          · rw [h5] at hval; omega
          · omega
      have H5 := Lib.hid h5
      clear hmore hlen hval hdig hb0 h5
      go_wp2
      · exfalso
        rename_i h
        rw [enc_dig] at h
        have := H5.out
        simp [ByteArray.size] at h
        omega
      · rename_i h1 h2
        rw [enc_dig, S_one]
        obtain ⟨hmore, hlen, hval, hdig, hb0⟩ := HV.out
        have hm : y % 10 < 10 := Nat.mod_lt _ (by decide)
        refine ⟨⟨UInt8.ofNat (48 + y % 10) :: t, y / 10, decide (0 < y / 10), rfl, by rw [show ((y / 10 : Nat) : Int) = (y : Int) / 10 from by omega], ?_, .inr rfl, H5.out, ?_, ?_, (by intro e; cases e), by first | rfl | trivial⟩, ?_⟩
        · congr 1
          by_cases hq : 0 < y / 10
          · rw [decide_eq_true hq, decide_eq_true (by omega)]
          · rw [decide_eq_false hq, decide_eq_false (by omega)]
        · have hd : K.dec 0 (UInt8.ofNat (48 + y % 10) :: t) = K.dec (0 * 10 + ((UInt8.ofNat (48 + y % 10)).toNat - 48)) t := rfl
          rw [hd, dig_of _ hm, K.dec_acc, List.length_cons, Nat.pow_succ, ← hval]
          obtain ⟨p, hp⟩ : ∃ p, 10 ^ t.length = p := ⟨_, rfl⟩
          rw [hp]
          have e1 : y / 10 * (p * 10) = (y / 10 * 10) * p := by rw [Nat.mul_comm p 10, Nat.mul_assoc]
          have e2 : y * p = (y / 10 * 10) * p + (y % 10) * p := by rw [← Nat.add_mul]; congr 1; omega
          rw [e1, e2, show 0 * 10 + (48 + y % 10 - 48) = y % 10 from by omega]
          omega
        · intro c hc
          rcases List.mem_cons.1 hc with rfl | hc
          · rw [dig_of _ hm]; unfold K.isDig; rw [decide_eq_true (by omega), decide_eq_true (by omega)]; rfl
          · exact hdig c hc
        · have e3 : (intOf (Value.int IntKind.u16 ((y : Int) / 10))).toNat = y / 10 := by simp only [intOf]; omega
          have e4 : (intOf (Value.int IntKind.u16 (y : Int))).toNat = y := by simp only [intOf]; omega
          rw [e3, e4]
          by_cases hq : 0 < y / 10
          · rw [decide_eq_true (show (0 : Int) < (y : Int) / 10 from by omega)]
            show y / 10 + 1 < y + 1
            omega
          · rw [decide_eq_false (show ¬ (0 : Int) < (y : Int) / 10 from by omega)]
            show y / 10 + 0 < y + 1
            omega
    | false =>
      obtain ⟨hmore, hlen, hval, hdig, hb0⟩ := HV.out
      have hy0 : y = 0 := by
        rcases hmore with ⟨_, h⟩ | h
        · cases h
        · by_cases h0 : 0 < y
          · rw [decide_eq_true h0] at h; cases h
          · omega
      have hne : t ≠ [] := fun e => by have := hb0 e; cases this
      subst hy0
      rw [Nat.zero_mul, Nat.add_zero] at hval
      have ht1 : 1 ≤ t.length := by cases t with
        | nil => exact absurd rfl hne
        | cons c r => simp
      have ha := K.lit_mil t [115] 1000 hdig (by decide) (by decide) (by decide) ht1 (by omega)
      have hb := K.lit_mil (t ++ [48, 48, 48]) [109, 115] 1 (K.dig_app hdig (by decide)) (by decide) (by decide) (by decide) (by simp) (by simp; omega)
      have hc := K.lit_mil t [109] 60000 hdig (by decide) (by decide) (by decide) ht1 (by omega)
      have hd := K.lit_byt t [75, 105, 66] 1024 hdig (by decide) (by decide) (by decide) ht1 (by omega)
      have he := K.lit_byt t [] 1 hdig (by decide) (by decide) (by decide) ht1 (by omega)
      have hf := K.lit_many (t ++ [48, 48, 48, 48, 48, 48, 48, 48, 48, 48]) [115] (K.dig_app hdig (by decide)) (by decide) (by simp)
      have hg : K.meas K.byt [75, 105, 66] = (0, 15) := by kernel_rfl
      rw [K.dec_000, hval] at hb
      rw [hval] at ha hc hd he
      rw [List.append_nil] at he
      rw [List.append_assoc] at hb hf
      have ca := fun W => millis_any (t ++ [115]) (by simp; omega) W
      have cb := fun W => millis_any (t ++ [48, 48, 48, 109, 115]) (by simp; omega) W
      have cc := fun W => millis_any (t ++ [109]) (by simp; omega) W
      have cd := fun W => bytes_any (t ++ [75, 105, 66]) (by simp; omega) W
      have ce := fun W => bytes_any t (by omega) W
      have cf := fun W => millis_any (t ++ [48, 48, 48, 48, 48, 48, 48, 48, 48, 48, 115]) (by simp; omega) W
      have cg := fun W => bytes_any [75, 105, 66] (by decide) W
      simp only [ha] at ca
      rw [show (t ++ ([48, 48, 48] ++ [109, 115])) = t ++ [48, 48, 48, 109, 115] from rfl] at hb
      simp only [hb] at cb
      simp only [hc] at cc
      simp only [hd] at cd
      simp only [he] at ce
      rw [show (t ++ ([48, 48, 48, 48, 48, 48, 48, 48, 48, 48] ++ [115])) = t ++ [48, 48, 48, 48, 48, 48, 48, 48, 48, 48, 115] from rfl] at hf
      simp only [hf] at cf
      simp only [hg] at cg
      obtain ⟨na, hna⟩ : ∃ z : Int, ((n * 1000 : Nat) : Int) = z := ⟨_, rfl⟩
      rw [hna] at ca
      have hnb : ((n * 1000 * 1 : Nat) : Int) = na := by omega
      rw [hnb] at cb
      have hnc : ((n * 60000 : Nat) : Int) = 60 * na := by omega
      rw [hnc] at cc
      have hnd : ((n * 1024 : Nat) : Int) = 1024 * (n : Int) := by omega
      rw [hnd] at cd
      have hne' : ((n * 1 : Nat) : Int) = (n : Int) := by omega
      rw [hne'] at ce
      obtain rfl : na = 1000 * (n : Int) := by omega
      have HCC := Lib.hid (And.intro ca (And.intro cb (And.intro cc (And.intro cd (And.intro ce (And.intro cf cg))))))
      clear ca cb cc cd ce cf cg ha hb hc hd he hf hg hna hnb hnc hnd hne' hmore hval hdig hb0 HV hy
      go_wp2_with fail
      rw [S_catl]
      refine (HCC.out.1 _).mono ?_
      rintro e w2 ⟨rfl, hb2⟩
      have HB2 := Lib.hid (HB1.out.trans (hb2.mono HB1.out.size))
      clear hb2
      go_wp2_with fail
      rw [S_catl]
      refine (HCC.out.2.1 _).mono ?_
      rintro e w3 ⟨rfl, hb2⟩
      have HB3 := Lib.hid (HB2.out.trans (hb2.mono HB2.out.size))
      clear hb2
      go_wp2_with fail
      rw [S_catl]
      refine (HCC.out.2.2.1 _).mono ?_
      rintro e w4 ⟨rfl, hb2⟩
      have HB4 := Lib.hid (HB3.out.trans (hb2.mono HB3.out.size))
      clear hb2
      go_wp2_with fail
      rw [S_catl]
      refine (HCC.out.2.2.2.1 _).mono ?_
      rintro e w5 ⟨rfl, hb2⟩
      have HB5 := Lib.hid (HB4.out.trans (hb2.mono HB4.out.size))
      clear hb2
      go_wp2_with fail
      refine (HCC.out.2.2.2.2.1 _).mono ?_
      rintro e w6 ⟨rfl, hb2⟩
      have HB6 := Lib.hid (HB5.out.trans (hb2.mono HB5.out.size))
      clear hb2
      go_wp2_with fail
      rw [S_catl]
      refine (HCC.out.2.2.2.2.2.1 _).mono ?_
      rintro e w7 ⟨rfl, hb2⟩
      have HB7 := Lib.hid (HB6.out.trans (hb2.mono HB6.out.size))
      clear hb2
      go_wp2_with fail
      refine (HCC.out.2.2.2.2.2.2 _).mono ?_
      rintro e w8 ⟨rfl, hb2⟩
      have HB8 := Lib.hid (HB7.out.trans (hb2.mono HB7.out.size))
      clear hb2
      go_wp2
      refine bodyPost_ret (v := .bool true) (by simp [results, Tryz.results8, go_sem]) rfl ?_
      exact ⟨rfl, HB8.out⟩
theorem units_int (w : World) (i : Int) (tx : Value) (hi : 0 ≤ i ∧ i ≤ 65535) (hT : Tb w) : Calls Tryz.prog 8 #[.int .u16 i, tx] w fun e w' => e = .returned (.bool true) ∧ Below w.heap.size w w' := by
  obtain ⟨n, rfl⟩ : ∃ n : Nat, i = (n : Int) := ⟨i.toNat, by omega⟩
  exact units_any w n tx (by omega) hT
end Go.Proofs.YtegobomfhdfodaaGreatDoor
