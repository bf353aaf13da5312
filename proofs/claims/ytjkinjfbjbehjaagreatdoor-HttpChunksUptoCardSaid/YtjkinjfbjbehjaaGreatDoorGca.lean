/- HTTP: A BODY IN CHUNKS, READ (mathematics). -/
import Derived.Test.YtjkinjfbjbehjaaGreatDoorGba
namespace Go.Proofs.YtjkinjfbjbehjaaGreatDoor
set_option linter.unusedVariables false
set_option linter.unusedSimpArgs false
set_option maxRecDepth 100000
namespace H
def hexs : T := [48, 49, 50, 51, 52, 53, 54, 55, 56, 57, 97, 66, 99, 68, 101, 70]
/-- the digits that stand already, one ahead of them for each round -/
def hexG : Nat → Nat → T → T
  | 0, _, s => s
  | k + 1, n, s => if s = [] ∨ 0 < n then hexG k (n / 16) (hexs.getD (n % 16) 0 :: s) else s
def hexD (n : Nat) : T := hexG 5 n []
def hexOk (n : Nat) : Bool := (match whole16 (Lib.cut (hexD n) [59]).1 with | .ok m => m == n | .error _ => false) && !(hexD n).contains 10 && decide ((hexD n).length ≤ 4)
theorem hex_all : (List.range 4097).all hexOk = true := by decide +kernel
theorem hex_one (n : Nat) (h : n ≤ 4096) : whole16 (Lib.cut (hexD n) [59]).1 = .ok n ∧ (10 : UInt8) ∉ hexD n ∧ (hexD n).length ≤ 4 := by
  have := List.all_eq_true.1 hex_all n (List.mem_range.2 (by omega))
  unfold hexOk at this
  simp only [Bool.and_eq_true, decide_eq_true_eq, Bool.not_eq_true'] at this
  obtain ⟨⟨h1, h2⟩, h3⟩ := this
  refine ⟨?_, by simpa using h2, h3⟩
  split at h1
  · rename_i m hm
    rw [hm, beq_iff_eq.1 h1]
  · cases h1
/-- a part as it is sent -/
def enc (p : T) : T := hexD p.length ++ 13 :: 10 :: (p ++ [13, 10])
def fit (p : T) : Prop := p ≠ [] ∧ p.length ≤ 4096
def lastC : T := [48, 13, 10, 13, 10]
def tot (ps : List T) : Nat := (ps.map List.length).sum
theorem size_enc (p r : T) (h : fit p) : chunkSize (enc p ++ r) = .ok (p.length, p ++ 13 :: 10 :: r) := by
  obtain ⟨h1, h2, h3⟩ := hex_one p.length h.2
  unfold chunkSize enc
  rw [show hexD p.length ++ 13 :: 10 :: (p ++ [13, 10]) ++ r = hexD p.length ++ 13 :: 10 :: (p ++ 13 :: 10 :: r) from by simp, line_crlf _ _ h2 (by omega)]
  simp only [h1]
theorem chunks_enc (most : Int) (x : T) : ∀ (ps : List T) (acc : T), (∀ p ∈ ps, fit p) → (acc.length : Int) ≤ most →
    chunksW most acc (ps.flatMap enc ++ (lastC ++ x)) = if ((acc.length + tot ps : Nat) : Int) ≤ most then .ok (acc ++ ps.flatten, x) else .error 4
  | [], acc, _, ha => by
    have h1 : chunkSize (([] : List T).flatMap enc ++ (lastC ++ x)) = .ok (0, 13 :: 10 :: x) := by
      unfold chunkSize
      rw [show ([] : List T).flatMap enc ++ (lastC ++ x) = [48] ++ 13 :: 10 :: (13 :: 10 :: x) from rfl, line_crlf [48] _ (by decide) (by decide)]
      rfl
    rw [(chunksW_eq most acc _).2 _ _ h1]
    unfold chunksK
    rw [if_pos rfl]
    unfold chunksH heads
    have h2 : line (13 :: 10 :: x) = .ok ([], x) := line_crlf [] x (by simp) (by simp)
    simp only [headsF, h2, if_true]
    rw [if_pos (by simpa [tot] using ha)]
    simp
  | p :: ps, acc, hf, ha => by
    have hp := hf p (by simp)
    rw [show (p :: ps).flatMap enc ++ (lastC ++ x) = enc p ++ (ps.flatMap enc ++ (lastC ++ x)) from by simp]
    rw [(chunksW_eq most acc _).2 _ _ (size_enc p _ hp)]
    unfold chunksK
    have h0 : ¬ p.length = 0 := fun e => hp.1 (List.eq_nil_of_length_eq_zero e)
    rw [if_neg h0]
    unfold chunksP part
    have ht : tot (p :: ps) = p.length + tot ps := by simp [tot]
    by_cases hm : (p.length : Int) ≤ most - acc.length
    · rw [if_neg (by simpa using hm), if_neg (by simp)]
      have e1 : (p ++ 13 :: 10 :: (ps.flatMap enc ++ (lastC ++ x))).take p.length = p := by simp
      have e2 : (p ++ 13 :: 10 :: (ps.flatMap enc ++ (lastC ++ x))).drop p.length = 13 :: 10 :: (ps.flatMap enc ++ (lastC ++ x)) := by simp
      simp only [e1, e2]
      unfold chunksE
      simp only [endR, if_true]
      rw [chunks_enc most x ps (acc ++ p) (fun q hq => hf q (by simp [hq])) (by simp; omega)]
      simp only [List.length_append, List.append_assoc, List.flatten_cons, ht]
      rw [Nat.add_assoc]
    · rw [if_pos (by simpa using hm)]
      rw [if_neg (by rw [ht]; omega)]
def headC : T := [80, 79, 83, 84, 32, 47, 32, 72, 84, 84, 80, 47, 49, 46, 49, 13, 10, 84, 114, 97, 110, 115, 102, 101, 114, 45, 69, 110, 99, 111, 100, 105, 110, 103, 58, 32, 67, 104, 117, 110, 107, 101, 100, 13, 10, 13, 10]
def lineC : T := [84, 114, 97, 110, 115, 102, 101, 114, 45, 69, 110, 99, 111, 100, 105, 110, 103, 58, 32, 67, 104, 117, 110, 107, 101, 100]
theorem heads_c (r : T) : heads (lineC ++ 13 :: 10 :: 13 :: 10 :: r) = .ok (⟨[], [], [[67, 104, 117, 110, 107, 101, 100]]⟩, r) := by
  unfold heads
  obtain ⟨n, hn⟩ : ∃ n, (lineC ++ 13 :: 10 :: 13 :: 10 :: r).length + 1 = n + 1 + 1 := ⟨(lineC ++ 13 :: 10 :: 13 :: 10 :: r).length - 1, by simp only [List.length_append, List.length_cons]; omega⟩
  rw [hn]
  simp only [headsF]
  rw [line_crlf _ _ (by decide) (by decide)]
  simp only
  rw [if_neg (by decide)]
  have hh : head lineC = .ok ⟨codingN, [67, 104, 117, 110, 107, 101, 100]⟩ := by
    have hc : Lib.cut lineC [58] = (codingN, [32, 67, 104, 117, 110, 107, 101, 100], true) := by decide +kernel
    have ht : Lib.trimS [32, 67, 104, 117, 110, 107, 101, 100] [32, 9] = [67, 104, 117, 110, 107, 101, 100] := by decide +kernel
    unfold head
    simp only [hc, ht]
    rw [if_pos (by decide +kernel)]
  rw [hh]
  simp only
  have ha : addHead ⟨[], [], []⟩ ⟨codingN, [67, 104, 117, 110, 107, 101, 100]⟩ = .ok ⟨[], [], [[67, 104, 117, 110, 107, 101, 100]]⟩ := by
    unfold addHead
    rw [if_neg (by decide), if_pos (by decide)]
    rfl
  rw [ha]
  simp only
  rw [show (13 :: 10 :: r : T) = [] ++ 13 :: 10 :: r from rfl, line_crlf [] r (by simp) (by simp)]
  simp only [if_true]
def sent (ps : List T) : T := headC ++ (ps.flatMap enc ++ lastC)
theorem read_chunks (ps : List T) (x : T) (most : Int) (hf : ∀ p ∈ ps, fit p) : readRequest (sent ps ++ x) most =
    if okMost most then (if ((tot ps : Nat) : Int) ≤ most then (⟨[80, 79, 83, 84], [47], [], ps.flatten⟩, (sent ps).length, 0) else (⟨[], [], [], []⟩, 0, 4)) else (⟨[], [], [], []⟩, 0, 2) := by
  unfold readRequest
  split
  · rename_i ho
    have hr : reqR most (sent ps ++ x) = if ((tot ps : Nat) : Int) ≤ most then .ok (⟨[80, 79, 83, 84], [47], [], ps.flatten⟩, x) else .error 4 := by
      unfold reqR
      rw [show sent ps ++ x = firstP ++ 13 :: 10 :: (lineC ++ 13 :: 10 :: 13 :: 10 :: (ps.flatMap enc ++ (lastC ++ x))) from by simp [sent, headC, firstP, lineC], req_post]
      simp only
      rw [heads_c]
      simp only
      unfold H.body
      rw [if_pos (by decide), if_pos (by decide)]
      have := chunks_enc most x ps [] hf (by simpa using ho.1)
      unfold chunksW at this
      unfold chunks
      rw [this]
      simp only [List.length_nil, Nat.zero_add, List.nil_append]
      by_cases hm : ((tot ps : Nat) : Int) ≤ most
      · rw [if_pos hm, if_pos hm]
      · rw [if_neg hm, if_neg hm]
    rw [hr]
    by_cases hm : ((tot ps : Nat) : Int) ≤ most
    · rw [if_pos hm, if_pos hm]; simp
    · rw [if_neg hm, if_neg hm]
  · rfl
end H
end Go.Proofs.YtjkinjfbjbehjaaGreatDoor

/- HTTP: THE WALK OVER HttpChunks' hex. -/
namespace Go.Proofs.YtjkinjfbjbehjaaGreatDoor
open Go.RowKit
set_option maxRecDepth 100000
set_option linter.unusedVariables false
set_option linter.unusedSimpArgs false
theorem H.hexG_end : ∀ (k : Nat) (s : H.T), s ≠ [] → H.hexG k 0 s = s
  | 0, s, _ => rfl
  | k + 1, s, h => by simp [H.hexG, h]
theorem hex_dig (d : Nat) (h : d < 16) : (⟨#[48, 49, 50, 51, 52, 53, 54, 55, 56, 57, 97, 66, 99, 68, 101, 70]⟩ : ByteArray).extract d (d + 1) = ⟨[H.hexs.getD d 0].toArray⟩ := by
  have : ∀ d, d < 16 → ((⟨#[48, 49, 50, 51, 52, 53, 54, 55, 56, 57, 97, 66, 99, 68, 101, 70]⟩ : ByteArray).extract d (d + 1)).data.toList = [H.hexs.getD d 0] := by decide +kernel
  have h2 := this d h
  apply ByteArray.ext
  apply Array.toList_inj.1
  simpa using h2
set_option maxHeartbeats 1000000 in
theorem hex_any (w : World) (n : Nat) (hn : n ≤ 4096) : Calls Tryz.prog 23 #[.int .i64 (n : Int)] w fun e w' => e = .returned (S (H.hexD n)) ∧ w' = w := by
  go_enter Tryz.func23, Tryz.ntmps23
  go_wp2
  go_loopw [0, 3] (fun u s wr => ∃ (k m : Nat) (t : H.T), u = .int .i64 (m : Int) ∧ s = S t ∧ m < 16 ^ k ∧ t.length + k = 5 ∧ H.hexG k m t = H.hexD n ∧ wr = w) (fun u s _ => (intOf u).toNat + match s with | .string b => 1 - b.size | _ => 0)
  case atStart => exact ⟨5, n, [], rfl, rfl, by omega, rfl, rfl, rfl⟩
  case round =>
    obtain ⟨k, m, t, rfl, rfl, hm, hk, hg, rfl⟩ := hrel
    have hmx : m < 1048576 := Nat.lt_of_lt_of_le hm (Nat.le_trans (Nat.pow_le_pow_right (by omega) (show k ≤ 5 by omega)) (by omega))
    by_cases h0 : t = [] ∨ 0 < m
    · obtain ⟨j, rfl⟩ : ∃ j, k = j + 1 := ⟨k - 1, by
        rcases h0 with h | h
        · subst h; simp at hk; omega
        · cases k with
          | zero => simp at hm; omega
          | succ j => omega⟩
      have hg2 : H.hexG j (m / 16) (H.hexs.getD (m % 16) 0 :: t) = H.hexD n := by rw [← hg, H.hexG, if_pos h0]
      obtain ⟨d, hd⟩ : ∃ d : Nat, m % 16 = d := ⟨_, rfl⟩
      have hd16 : d < 16 := by omega
      have e1 := hex_dig d hd16
      have e2 := S_app [H.hexs.getD d 0] t
      have hmod : (m : Int) % 16 = (d : Int) := by omega
      have htm : Int.tmod (m : Int) 16 = (d : Int) := by rw [Int.tmod_eq_emod_of_nonneg (by omega)]; exact hmod
      have htd : Int.tdiv (m : Int) 16 = ((m / 16 : Nat) : Int) := by rw [Int.tdiv_eq_ediv_of_nonneg (by omega)]; omega
      rw [hd] at hg2
      have hsz : ({ data := #[48, 49, 50, 51, 52, 53, 54, 55, 56, 57, 97, 66, 99, 68, 101, 70] } : ByteArray).size = 16 := by rfl
      have hb1 : (d : Int) + 1 ≤ 16 := by omega
      have hb2 : (d : Int) ≤ (d : Int) + 1 := by omega
      obtain ⟨g, hgd⟩ : ∃ g : UInt8, H.hexs.getD d 0 = g := ⟨_, rfl⟩
      rw [hgd] at e1 e2 hg2
      have Hg := Lib.hid hg2
      have Hm := Lib.hid (show m / 16 < 16 ^ j ∧ (g :: t).length + j = 5 from ⟨by rw [Nat.pow_succ] at hm; omega, by simp; omega⟩)
      have htl : t.length ≤ 5 := by omega
      have g1 : (⟨#[g]⟩ : ByteArray).size = 1 := rfl
      have g0 : (⟨#[]⟩ : ByteArray).size = 0 := rfl
      have Ht := Lib.hid hk
      clear hg2 hg hgd hm hk
      by_cases ht : t = []
      · subst ht
        clear h0 htl
        go_wp2
        go_roundw
        case rel => exact ⟨j, m / 16, [g], by go_num, congrArg Value.string e2, Hm.out.1, Hm.out.2, Hg.out, trivial⟩
        case measure =>
          simp [intOf, g1, g0]
          omega
      · have h0' : (0 : Int) < (m : Int) := by have := h0.resolve_left ht; omega
        have hie : t.isEmpty = false := by cases t with | nil => exact absurd rfl ht | cons => rfl
        have hz1 : 1 ≤ t.length := by cases t with | nil => exact absurd rfl ht | cons => simp
        clear h0
        go_wp2
        go_roundw
        case rel => exact ⟨j, m / 16, g :: t, by go_num, rfl, Hm.out.1, Hm.out.2, Hg.out, trivial⟩
        case measure =>
          have g2 : (⟨(g :: t).toArray⟩ : ByteArray).size = t.length + 1 := by rw [S_size]; rfl
          have g3 : (⟨t.toArray⟩ : ByteArray).size = t.length := S_size t
          simp only [intOf, g2, g3]
          omega
    · have ht : ¬ t = [] := fun h => h0 (.inl h)
      have hm0 : m = 0 := by omega
      subst hm0
      rw [H.hexG_end k t ht] at hg
      have hie : t.isEmpty = false := by cases t with | nil => exact absurd rfl ht | cons => rfl
      have Hg := Lib.hid hg
      clear hg h0
      go_wp2
      go_ret
      exact ⟨by rw [Hg.out]; rfl, rfl⟩
end Go.Proofs.YtjkinjfbjbehjaaGreatDoor

/- HTTP: THE WALK OVER HttpChunks. -/
namespace Go.Proofs.YtjkinjfbjbehjaaGreatDoor
open Go.RowKit
set_option maxRecDepth 100000
set_option linter.unusedVariables false
set_option linter.unusedSimpArgs false
/-- texts stand there -/
def Tx (w : World) (ad : Option Addr) (ps : List H.T) : Prop := ps ≠ [] → ∃ g off, ad = some ⟨g, off, none⟩ ∧ g < w.heap.size ∧ ∀ i p, ps[i]? = some p → w.cell? ⟨g, off + i, none⟩ = some (S p)
theorem Tx.under {w w' : World} {ad : Option Addr} {ps : List H.T} (h : Tx w ad ps) (hb : Below w.heap.size w w') : Tx w' ad ps := fun hne => by
  obtain ⟨g, off, e, hg, hc⟩ := h hne
  exact ⟨g, off, e, Nat.lt_of_lt_of_le hg hb.size, fun i x hx => (hb.cell (p := ⟨g, off + i, none⟩) hg).trans (hc i x hx)⟩
namespace H
def fitB (p : T) : Bool := !p.isEmpty && decide (p.length ≤ 4096)
def kept (ps : List T) : List T := ps.filter fitB
def bulk (ps : List T) : Nat := (ps.map fun p => p.length + 1).sum
theorem kept_fit (ps : List T) : ∀ p ∈ kept ps, fit p := fun p hp => by
  have := (List.mem_filter.1 hp).2
  simp only [fitB, Bool.and_eq_true, decide_eq_true_eq, Bool.not_eq_true'] at this
  exact ⟨fun e => by subst e; simp at this, this.2⟩
theorem kept_step (ps : List T) (j : Nat) (p : T) (h : ps[j]? = some p) : kept (ps.take (j + 1)) = if fitB p then kept (ps.take j) ++ [p] else kept (ps.take j) := by
  rw [List.take_add_one, h]
  unfold kept
  rw [List.filter_append]
  cases hf : fitB p <;> simp [hf]
theorem bulk_step (ps : List T) (j : Nat) (p : T) (h : ps[j]? = some p) : bulk (ps.take (j + 1)) = bulk (ps.take j) + (p.length + 1) := by
  rw [List.take_add_one, h]
  simp [bulk]
theorem bulk_le (ps : List T) : ∀ j, bulk (ps.take j) ≤ bulk ps := by
  induction ps with
  | nil => intro j; simp [bulk]
  | cons p t ih =>
    intro j
    cases j with
    | zero => simp [bulk]
    | succ j =>
      have := ih j
      simp only [bulk, List.take_succ_cons, List.map_cons, List.sum_cons] at this ⊢
      omega
end H
theorem enc_len (p : H.T) (h : p.length ≤ 4096) : (H.enc p).length ≤ p.length + 8 := by
  have := (H.hex_one p.length h).2.2
  unfold H.enc
  simp only [List.length_append, List.length_cons, List.length_nil]
  omega
theorem chunk_case (K : List H.T) (x : H.T) (most : Int) (hm : -9223372036854775808 ≤ most ∧ most ≤ 9223372036854775807) (hf : ∀ p ∈ K, H.fit p) (hl : (H.sent K ++ x).length ≤ 149533581377000) :
    ∃ (m t b : H.T) (n c : Int), (∀ w, Tabs w → Calls Tryz.prog 10 #[S (H.sent K ++ x), .int .i64 most] w fun e w' => Below w.heap.size w w' ∧ ∃ ad cap, e = .returned (.tuple #[.agg #[S m, S t, .slice ad 0 cap, S b], .int .i64 n, .int .i64 c])) ∧
      ((c = 2 ∧ (most < 0 ∨ (¬ most < 0 ∧ 65536 < most))) ∨ (c = 4 ∧ ¬ most < 0 ∧ ¬ 65536 < most ∧ most < (K.flatten.length : Int)) ∨ (c = 0 ∧ n = ((H.sent K).length : Int) ∧ b = K.flatten ∧ ¬ most < 0 ∧ ¬ 65536 < most ∧ ¬ most < (K.flatten.length : Int))) := by
  have hM := H.read_chunks K x most hf
  have ht : H.tot K = K.flatten.length := by simp [H.tot, List.length_flatten]
  rw [ht] at hM
  have key : ∀ (q : H.Rq) (n : Nat) (c : Int), q.hs = [] → H.readRequest (H.sent K ++ x) most = (q, n, c) → ∀ w, Tabs w → Calls Tryz.prog 10 #[S (H.sent K ++ x), .int .i64 most] w fun e w' => Below w.heap.size w w' ∧ ∃ ad cap, e = .returned (.tuple #[.agg #[S q.method, S q.target, .slice ad 0 cap, S q.body], .int .i64 (n : Int), .int .i64 c]) := fun q n c hq h w hT => by
    refine (rd_any w _ most hm hl hT q n c h).mono fun e w' hh => ?_
    obtain ⟨hb, ad, k, cap, he, hk, _⟩ := hh
    rw [hq] at hk
    obtain rfl : k = 0 := hk
    exact ⟨hb, ad, cap, he⟩
  by_cases ho : H.okMost most
  · rw [if_pos ho] at hM
    by_cases hle : (K.flatten.length : Int) ≤ most
    · rw [if_pos hle] at hM
      exact ⟨_, _, _, _, _, key _ _ _ rfl hM, .inr (.inr ⟨rfl, rfl, rfl, by simp [H.okMost] at ho; omega, by simp [H.okMost] at ho; omega, by omega⟩)⟩
    · rw [if_neg hle] at hM
      exact ⟨_, _, _, _, _, key _ _ _ rfl hM, .inr (.inl ⟨rfl, by simp [H.okMost] at ho; omega, by simp [H.okMost] at ho; omega, by omega⟩)⟩
  · rw [if_neg ho] at hM
    exact ⟨_, _, _, _, _, key _ _ _ rfl hM, .inl ⟨rfl, by simp [H.okMost] at ho; omega⟩⟩
section
variable (w : World) (ps : List H.T) (ad : Option Addr) (cap : Nat) (x : H.T) (most : Int)
set_option maxHeartbeats 4000000 in
theorem chunks_law (hm : -9223372036854775808 ≤ most ∧ most ≤ 9223372036854775807) (hp : Tx w ad ps) (hb : H.bulk ps ≤ 1048576) (hx : x.length ≤ 1048576) (hT : Tabs w) :
    Calls Tryz.prog 7 #[.slice ad ps.length cap, .int .i64 most, S x] w fun e w' => e = .returned (.bool true) ∧ Below w.heap.size w w' := by
  have HT := Lib.hid hT
  clear hT
  go_enter Tryz.func7, Tryz.ntmps7
  go_wp2_with fail
  refine (lives_any w HT.out).mono ?_
  rintro e w1 ⟨rfl, hb1⟩
  have HT1 := Lib.hid (HT.out.under hb1)
  have HB1 := Lib.hid hb1
  have hp1 := hp.under hb1
  have hpl : ps.length ≤ 1048576 := by
    have : ps.length ≤ H.bulk ps := by
      clear hp hp1 hb
      induction ps with
      | nil => simp
      | cons p t ih => simp only [H.bulk, List.map_cons, List.sum_cons, List.length_cons] at ih ⊢; omega
    omega
  obtain ⟨z, hz⟩ : ∃ z : Int, ((ps.length : Nat) : Int) = z := ⟨_, rfl⟩
  clear hb1 HT hp
  have Hm := Lib.hid hm
  clear hm
  go_wp2
  go_loopw [7, 8, 18] (fun s b u wr => ∃ (j : Nat) (l : H.T) (b' : H.T), u = .int .i64 (j : Int) ∧ j ≤ ps.length ∧ l = (H.kept (ps.take j)).flatMap H.enc ∧ b' = (H.kept (ps.take j)).flatten ∧ s = S (H.headC ++ l) ∧ b = S b' ∧ l.length ≤ 9 * H.bulk (ps.take j) ∧ b'.length ≤ H.bulk (ps.take j) ∧ wr = w1) (fun _ _ u _ => ps.length - (intOf u).toNat)
  case atStart => exact ⟨0, [], [], rfl, Nat.zero_le _, rfl, rfl, rfl, rfl, by simp, by simp, rfl⟩
  case round =>
    obtain ⟨j, l, b, rfl, hj, hl, hbb, rfl, rfl, hll, hbl, rfl⟩ := hrel
    have hbk := H.bulk_le ps j
    by_cases hlt : j < ps.length
    · have hjz : (j : Int) < z := by omega
      have hne : ps ≠ [] := by rintro rfl; simp at hlt
      obtain ⟨g, off, rfl, hg, hc⟩ := hp1 hne
      obtain ⟨p, hpj⟩ : ∃ p, ps[j]? = some p := ⟨_, List.getElem?_eq_getElem hlt⟩
      have c0 := hc j p hpj
      have hst := H.kept_step ps j p hpj
      have hsb := H.bulk_step ps j p hpj
      clear hc
      have hbk1 := H.bulk_le ps (j + 1)
      have Hst := Lib.hid hst
      have Hsb := Lib.hid hsb
      have Hl := Lib.hid (And.intro hl hbb)
      have Hll := Lib.hid (And.intro hll hbl)
      have Hbk := Lib.hid (And.intro hbk hbk1)
      have hl1 : l.length ≤ 9437184 := by omega
      have hl2 : b.length ≤ 1048576 := by omega
      have hp6 : p.length ≤ 1048576 := by omega
      clear hst hsb hl hbb hll hbl hbk hbk1
      by_cases he : p = []
      · subst he
        go_wp2
        go_roundw
        case rel =>
          have h := Hst.out
          rw [if_neg (by decide)] at h
          have h2 := Hsb.out
          have h3 := Hll.out
          exact ⟨j + 1, l, b, by go_num, by omega, by rw [h]; exact Hl.out.1, by rw [h]; exact Hl.out.2, rfl, rfl, by omega, by omega, trivial⟩
        case measure => simp [intOf]; omega
      · have hie : p.isEmpty = false := by cases p with | nil => exact absurd rfl he | cons => rfl
        obtain ⟨y, hy⟩ : ∃ y : Int, ((p.length : Nat) : Int) = y := ⟨_, rfl⟩
        by_cases h4 : 4096 < p.length
        · have h4' : (4096 : Int) < y := by omega
          have hfb : H.fitB p = false := by simp [H.fitB]; omega
          have Hfb := Lib.hid hfb
          clear hfb
          go_wp2
          go_roundw
          case rel =>
            have h := Hst.out
            rw [if_neg (by rw [Hfb.out]; decide)] at h
            have h2 := Hsb.out
            have h3 := Hll.out
            exact ⟨j + 1, l, b, by go_num, by omega, by rw [h]; exact Hl.out.1, by rw [h]; exact Hl.out.2, rfl, rfl, by omega, by omega, trivial⟩
          case measure => simp [intOf]; omega
        · have h4' : ¬ (4096 : Int) < y := by omega
          have hfb : H.fitB p = true := by simp [H.fitB, hie]; omega
          have Hfb := Lib.hid hfb
          have hh := hex_any wr p.length (by omega)
          have hhl := (H.hex_one p.length (by omega)).2.2
          obtain ⟨q, hq⟩ : ∃ q, H.hexD p.length = q := ⟨_, rfl⟩
          rw [hq] at hh hhl
          rw [hy] at hh
          have hq2 : H.enc p = q ++ [13, 10] ++ p ++ [13, 10] := by unfold H.enc; rw [hq]; simp
          have e1 := S_app q [13, 10]
          have e2 := S_app (q ++ [13, 10]) p
          have e3 := S_app (q ++ [13, 10] ++ p) [13, 10]
          have e4 := S_app (H.headC ++ l) (q ++ [13, 10] ++ p ++ [13, 10])
          have e5 := S_app b p
          have hhc : H.headC.length = 47 := rfl
          have HQ := Lib.hid hq2
          have HH := Lib.hid hh
          clear hfb hq hq2 hh
          go_wp2_with (go_at_call 23; with_reducible refine HH.out.mono ?_; rintro e w' ⟨rfl, rfl⟩)
          go_roundw
          case rel =>
            have h := Hst.out
            rw [if_pos Hfb.out] at h
            have h2 := Hsb.out
            have h3 := Hll.out
            have h5 := enc_len p (by omega)
            refine ⟨j + 1, l ++ H.enc p, b ++ p, by go_num, by omega, by rw [h, List.flatMap_append, ← Hl.out.1]; simp, by rw [h, List.flatten_append, ← Hl.out.2]; simp, ?_, ?_, by rw [List.length_append]; omega, by rw [List.length_append]; omega, trivial⟩
            · rw [HQ.out]
              congr 1
              apply ByteArray.ext
              simp [ByteArray.data_append]
            · rfl
          case measure => simp [intOf]; omega
    · have hjz : ¬ (j : Int) < z := by omega
      have hfull : ps.take j = ps := List.take_of_length_le (by omega)
      rw [hfull] at hl hbb hll hbl
      obtain ⟨K, hK⟩ : ∃ K, H.kept ps = K := ⟨_, rfl⟩
      have hf := H.kept_fit ps
      rw [hK] at hl hbb hf
      have hs1 : H.headC ++ l ++ H.lastC = H.sent K := by unfold H.sent; rw [hl]; simp
      have hhc : H.headC.length = 47 := rfl
      have hsl : (H.sent K).length ≤ 9437300 := by
        have h5 : H.lastC.length = 5 := rfl
        rw [← hs1]
        simp only [List.length_append, hhc, h5]
        omega
      obtain ⟨m, t, bb, n, c, hr, hcs⟩ := chunk_case K x most Hm.out hf (by rw [List.length_append]; omega)
      rw [← hbb] at hcs
      have hl1 : l.length ≤ 9437184 := by omega
      have hl2 : b.length ≤ 1048576 := by omega
      obtain ⟨o, ho⟩ : ∃ o, H.sent K = o := ⟨_, rfl⟩
      rw [ho] at hs1 hsl hr hcs
      have e1 : (⟨(H.headC ++ l).toArray⟩ : ByteArray) ++ ⟨#[48, 13, 10, 13, 10]⟩ = ⟨o.toArray⟩ := by rw [← hs1]; exact S_app _ H.lastC
      have e2 := S_app o x
      obtain ⟨y, hy⟩ : ∃ y : Int, ((b.length : Nat) : Int) = y := ⟨_, rfl⟩
      obtain ⟨v, hv⟩ : ∃ v : Int, ((o.length : Nat) : Int) = v := ⟨_, rfl⟩
      rw [hy, hv] at hcs
      have HR := Lib.hid hr
      have HC := Lib.hid hcs
      have hnc : (H.headC ++ l).length ≤ 9437300 := by rw [List.length_append]; omega
      clear hr hcs hs1 hl hbb hll hbl hf hK ho hfull hp1 hbk hb
      go_wp2_with fail
      with_reducible refine (HR.out _ HT1.out).mono ?_
      rintro e w3 ⟨hb3, ad3, cap3, rfl⟩
      obtain ⟨X, hX⟩ : ∃ X, X = w3.alloc (.cells #[S m, S t, .slice ad3 0 cap3, S bb] 24) := ⟨_, rfl⟩
      have hbX : Below w3.heap.size w3 X := by rw [hX]; exact (Below.refl _ w3).alloc (Nat.le_refl _) _
      have hk : X.heap[w3.heap.size]? = some (.cells #[S m, S t, .slice ad3 0 cap3, S bb] 24 (0, 0)) := by rw [hX]; exact blk_new w3 _
      have hb23 := HB1.out.trans (hb3.mono HB1.out.size)
      have HB3 := Lib.hid (hb23.trans (hbX.mono hb23.size))
      obtain ⟨c0, c1, c2, c3⟩ := box4 hk
      have hlx := blk_lt hk
      clear hb3 hbX hb23 hk HR
      go_upto_region 14 with (fail)
      rw [← hX]
      clear hX
      have hcs := HC.out
      rcases hcs with ⟨rfl, h1 | ⟨h1, h2⟩⟩ | ⟨rfl, h1, h2, h3⟩ | ⟨rfl, rfl, rfl, h1, h2, h3⟩
      · go_wp2
        go_ret
        exact ⟨rfl, HB3.out⟩
      · go_wp2
        go_ret
        exact ⟨rfl, HB3.out⟩
      · go_wp2
        go_ret
        exact ⟨rfl, HB3.out⟩
      · go_wp2
        go_ret
        exact ⟨rfl, HB3.out⟩
end
end Go.Proofs.YtjkinjfbjbehjaaGreatDoor
