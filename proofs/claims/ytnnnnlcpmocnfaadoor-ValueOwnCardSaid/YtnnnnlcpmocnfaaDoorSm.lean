/- Same AND SamePairs OF ANY VALUES, the document's own and the program's. -/
import Derived.Test.YtnnnnlcpmocnfaaDoorSm4
import Derived.Test.YtnnnnlcpmocnfaaDoorSm5
import Derived.Test.YtnnnnlcpmocnfaaDoorSm7
namespace Go.Proofs.YtnnnnlcpmocnfaaDoor
open Go.RowKit
set_option linter.unusedVariables false

theorem bne_no {a b : Int} (h : a = b) : (a != b) = false := by rw [h]; simp
theorem bne_yes {a b : Int} (h : a ≠ b) : (a != b) = true := by simp [h]
theorem str_eq {a b : ByteArray} (h : a = b) : (a.toList == b.toList) = true := by rw [h]; simp
theorem bool_eq {a b : Bool} (h : a = b) : (a == b) = true := by rw [h]; simp
theorem bool_ne {a b : Bool} (h : a ≠ b) : (a == b) = false := by cases a <;> cases b <;> simp_all
theorem cast_eq {a b : Nat} (h : a = b) : ((a : Int) != (b : Int)) = false := bne_no (by omega)
theorem cast_ne {a b : Nat} (h : a ≠ b) : ((a : Int) != (b : Int)) = true := bne_yes (by omega)

theorem rs_step (x y : V) (ihl : ∀ (i : Nat) a b, x.l[i]? = some a → y.l[i]? = some b → SameC 21 a b) (ihp : SamePC 23 x.p y.p) : SameC 21 x y := by
  by_cases hk : x.k = y.k
  · by_cases hs : x.s = y.s
    · by_cases hb : x.b = y.b
      · by_cases hn : x.n = y.n
        · by_cases hf : x.f = y.f
          · by_cases hl : x.l.length = y.l.length
            · exact rs_main x y (bne_no hk) (str_eq hs) (bool_eq hb) (bne_no hn) (cast_eq hf) (cast_eq hl) ⟨hk, hs, hb, hn, hf, hl⟩ ihl ihp
            · exact rs_l x y (bne_no hk) (str_eq hs) (bool_eq hb) (bne_no hn) (cast_eq hf) (cast_ne hl) (one_no fun e => hl (by rw [e]))
          · exact rs_f x y (bne_no hk) (str_eq hs) (bool_eq hb) (bne_no hn) (cast_ne hf) (one_no fun e => hf (by rw [e]))
        · exact rs_n x y (bne_no hk) (str_eq hs) (bool_eq hb) (bne_yes hn) (one_no fun e => hn (by rw [e]))
      · exact rs_b x y (bne_no hk) (str_eq hs) (bool_ne hb) (one_no fun e => hb (by rw [e]))
    · exact rs_s x y (bne_no hk) (str_ne hs) (one_no fun e => hs (by rw [e]))
  · exact rs_k x y (bne_yes hk) (one_no fun e => hk (by rw [e]))
theorem rsp_step (x y : List (ByteArray × V)) (ih : ∀ (i : Nat) a b, x[i]? = some a → y[i]? = some b → SameC 21 a.2 b.2) : SamePC 23 x y := by
  by_cases h : x.length = y.length
  · exact rsp_main x y h ih
  · exact rsp_len x y h
theorem rs_sized : ∀ (n : Nat) (x : V), SizeOf.sizeOf x ≤ n → ∀ y, SameC 21 x y := by
  intro n
  induction n with
  | zero => intro x hx y; cases x; simp only [V.mk.sizeOf_spec] at hx; omega
  | succ n ih =>
    intro x hx y
    exact rs_step x y (fun i a b ha hb => ih a (by have := V.size_l (List.mem_of_getElem? ha); omega) b) (rsp_step _ _ fun i a b ha hb => ih a.2 (by have := V.size_p (List.mem_of_getElem? ha); omega) b.2)
theorem rs_any (x y : V) : SameC 21 x y := rs_sized _ x (Nat.le_refl _) y
theorem rsp_any (x y : List (ByteArray × V)) : SamePC 23 x y := rsp_step x y fun i a b _ _ => rs_any a.2 b.2

theorem vs_step (x y : V) (ihl : ∀ (i : Nat) a b, x.l[i]? = some a → y.l[i]? = some b → SameC 20 a b) (ihp : SamePC 22 x.p y.p) : SameC 20 x y := by
  by_cases hk : x.k = y.k
  · by_cases hs : x.s = y.s
    · by_cases hb : x.b = y.b
      · by_cases hn : x.n = y.n
        · by_cases hf : x.f = y.f
          · by_cases hl : x.l.length = y.l.length
            · exact vs_main x y (bne_no hk) (str_eq hs) (bool_eq hb) (bne_no hn) (cast_eq hf) (cast_eq hl) ⟨hk, hs, hb, hn, hf, hl⟩ ihl ihp
            · exact vs_l x y (bne_no hk) (str_eq hs) (bool_eq hb) (bne_no hn) (cast_eq hf) (cast_ne hl) (one_no fun e => hl (by rw [e]))
          · exact vs_f x y (bne_no hk) (str_eq hs) (bool_eq hb) (bne_no hn) (cast_ne hf) (one_no fun e => hf (by rw [e]))
        · exact vs_n x y (bne_no hk) (str_eq hs) (bool_eq hb) (bne_yes hn) (one_no fun e => hn (by rw [e]))
      · exact vs_b x y (bne_no hk) (str_eq hs) (bool_ne hb) (one_no fun e => hb (by rw [e]))
    · exact vs_s x y (bne_no hk) (str_ne hs) (one_no fun e => hs (by rw [e]))
  · exact vs_k x y (bne_yes hk) (one_no fun e => hk (by rw [e]))
theorem sp_step (x y : List (ByteArray × V)) (ih : ∀ (i : Nat) a b, x[i]? = some a → y[i]? = some b → SameC 20 a.2 b.2) : SamePC 22 x y := by
  by_cases h : x.length = y.length
  · exact sp_main x y h ih
  · exact sp_len x y h
theorem vs_sized : ∀ (n : Nat) (x : V), SizeOf.sizeOf x ≤ n → ∀ y, SameC 20 x y := by
  intro n
  induction n with
  | zero => intro x hx y; cases x; simp only [V.mk.sizeOf_spec] at hx; omega
  | succ n ih =>
    intro x hx y
    exact vs_step x y (fun i a b ha hb => ih a (by have := V.size_l (List.mem_of_getElem? ha); omega) b) (sp_step _ _ fun i a b ha hb => ih a.2 (by have := V.size_p (List.mem_of_getElem? ha); omega) b.2)
theorem vs_any (x y : V) : SameC 20 x y := vs_sized _ x (Nat.le_refl _) y
theorem sp_any (x y : List (ByteArray × V)) : SamePC 22 x y := sp_step x y fun i a b _ _ => vs_any a.2 b.2
end Go.Proofs.YtnnnnlcpmocnfaaDoor
