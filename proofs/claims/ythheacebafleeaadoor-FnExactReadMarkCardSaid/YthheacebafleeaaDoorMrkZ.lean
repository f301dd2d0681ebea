/- Reading marks. -/
import Derived.Test.YthheacebafleeaaDoorMrkW
import Derived.Test.YthheacebafleeaaDoorMrkN
import Derived.Test.YthheacebafleeaaDoorSplitM
namespace Go.Proofs.YthheacebafleeaaDoor
open Go.ChangeShapes Go.WideShapes Go.ChangeAt Go.RowKit Pm

/-- A topmark as it is read. -/
def dashT (t : ByteArray) : ByteArray := if t.toList == [45] then ⟨#[]⟩ else t
/-- The mark of some words: the kind by its number. -/
structure Mk where
  k : Int
  c : ByteArray
  s : ByteArray
  t : ByteArray
def mk0 : Mk := ⟨0, ⟨#[]⟩, ⟨#[]⟩, ⟨#[]⟩⟩
def Mk.val (m : Mk) : Value := .agg #[.int .i64 m.k, .string m.c, .string m.s, .string m.t]
def lookM (ps : List ByteArray) (v : Int) : Mk := match ps with
  | [_, b, c, d] => ⟨v, b, c, dashT d⟩
  | _ => mk0
/-- Does a text say a mark with a look? -/
def saysB (s : ByteArray) (v : Int) : Bool := decide ((cutS 32 s).length = 4) && (inB 1 9 [v] && (mkOk (lookM (cutS 32 s) v).k (lookM (cutS 32 s) v).c (lookM (cutS 32 s) v).s (lookM (cutS 32 s) v).t && ((mkT (lookM (cutS 32 s) v).k (lookM (cutS 32 s) v).c (lookM (cutS 32 s) v).s (lookM (cutS 32 s) v).t).toList == s.toList)))
def noneB : ByteArray := ⟨#[110, 111, 110, 101]⟩
/-- What is answered. -/
def rdK (s : ByteArray) (v : Int) : Mk := if s.toList == noneB.toList then mk0 else if saysB s v then lookM (cutS 32 s) v else mk0
def rdB (s : ByteArray) (v : Int) : Bool := (s.toList == noneB.toList) || saysB s v
theorem cut_none : (cutS 32 noneB).length = 1 := by decide +kernel
theorem mkT0 (c s t : ByteArray) : mkT 0 c s t = noneB := by unfold mkT; rw [if_pos rfl]; rfl
theorem ok0 : mkOk 0 ⟨#[]⟩ ⟨#[]⟩ ⟨#[]⟩ = true := by decide +kernel
/-- The mark that the program makes of some words: the kind of an unknown name is none. -/
def impM (s : ByteArray) (v : Int) : Mk := lookM (cutS 32 s) (nmA v)
theorem look_no {ps : List ByteArray} (h : ps.length ≠ 4) (v : Int) : lookM ps v = mk0 := by
  unfold lookM
  split
  · simp at h
  · rfl
theorem look_k {ps : List ByteArray} (h : ps.length = 4) (v : Int) : (lookM ps v).k = v := by
  match ps, h with
  | [_, _, _, _], _ => rfl
/-- The program's answer is the one. -/
theorem imp_is (s : ByteArray) (v : Int) (hv : v ≤ 9) :
    (mkOk (impM s v).k (impM s v).c (impM s v).s (impM s v).t && ((markText (impM s v).k (impM s v).c (impM s v).s (impM s v).t).toList == s.toList)) = rdB s v ∧ (rdB s v = true → impM s v = rdK s v) ∧ (rdB s v = false → rdK s v = mk0) := by
  have hz : ∀ c h t : ByteArray, (mkOk 0 c h t && ((markText 0 c h t).toList == s.toList)) = true → (s.toList == noneB.toList) = true := fun c h t e => by
    simp only [Bool.and_eq_true] at e
    have e2 := e.2
    unfold markText at e2
    rw [if_pos e.1, mkT0, beq_iff_eq] at e2
    rw [beq_iff_eq]; exact e2.symm
  cases hn : (s.toList == noneB.toList)
  · have hno : ∀ c h t : ByteArray, (mkOk 0 c h t && ((markText 0 c h t).toList == s.toList)) = false := fun c h t => by
      cases hh : (mkOk 0 c h t && ((markText 0 c h t).toList == s.toList))
      · rfl
      · have := hz c h t hh; rw [hn] at this; cases this
    have hK : saysB s v = true → rdK s v = lookM (cutS 32 s) v := fun h => by unfold rdK; rw [hn, h]; rfl
    have hK0 : saysB s v = false → rdK s v = mk0 := fun h => by unfold rdK; rw [hn, h]; rfl
    have hB : rdB s v = saysB s v := by unfold rdB; rw [hn]; rfl
    rw [hB]
    by_cases h4 : (cutS 32 s).length = 4
    · cases h9 : inB 1 9 [v]
      · have hs : saysB s v = false := by unfold saysB; rw [h9]; simp
        have hk : (impM s v).k = 0 := by
          unfold impM; rw [look_k h4]
          have := inb_no h9
          unfold nmA; split <;> omega
        rw [hs, hk]
        exact ⟨hno _ _ _, (fun h => by cases h), fun _ => hK0 hs⟩
      · have h19 := inb_yes h9
        have hnm : nmA v = v := by unfold nmA; rw [if_neg (by omega)]
        have hm : impM s v = lookM (cutS 32 s) v := by unfold impM; rw [hnm]
        rw [hm]
        have hs : saysB s v = (mkOk (lookM (cutS 32 s) v).k (lookM (cutS 32 s) v).c (lookM (cutS 32 s) v).s (lookM (cutS 32 s) v).t && ((mkT (lookM (cutS 32 s) v).k (lookM (cutS 32 s) v).c (lookM (cutS 32 s) v).s (lookM (cutS 32 s) v).t).toList == s.toList)) := by
          unfold saysB; rw [h9, decide_eq_true h4]; rfl
        refine ⟨?_, fun h => (hK h).symm, hK0⟩
        rw [hs]
        unfold markText
        generalize (lookM (cutS 32 s) v) = m
        cases hok : mkOk m.k m.c m.s m.t
        · rfl
        · rfl
    · have hs : saysB s v = false := by unfold saysB; rw [decide_eq_false h4]; rfl
      have hm : impM s v = mk0 := by unfold impM; exact look_no h4 _
      rw [hs, hm]
      exact ⟨hno _ _ _, (fun h => by cases h), fun _ => hK0 hs⟩
  · have he : s = noneB := by rw [bytes_beq, decide_eq_true_iff] at hn; exact hn
    have hB : rdB s v = true := by unfold rdB; rw [hn]; rfl
    have hK : rdK s v = mk0 := by unfold rdK; rw [hn]; rfl
    have hm : impM s v = mk0 := by unfold impM; exact look_no (by rw [he, cut_none]; decide) _
    rw [hB, hK, hm]
    refine ⟨?_, fun _ => rfl, fun h => by cases h⟩
    show (mkOk 0 ⟨#[]⟩ ⟨#[]⟩ ⟨#[]⟩ && ((markText 0 ⟨#[]⟩ ⟨#[]⟩ ⟨#[]⟩).toList == s.toList)) = true
    unfold markText
    rw [ok0, if_pos rfl, mkT0, he]
    simp
theorem zfrozen_below {w w' : World} {a : Addr} (h : w.frozen? a = false) (hl : a.block < w.heap.size) (hb : Below w.heap.size w w') : w'.frozen? a = false := by
  rw [hb.frozen hl]; exact h
theorem named_le {s : ByteArray} {v : Int} (h : NamedIs s v) : v ≤ 9 := by
  rcases h with ⟨rfl, _⟩ | ⟨r, hr, rfl, _⟩ <;> omega
/-- The first word. -/
def firstW (s : ByteArray) : ByteArray := (cutS 32 s).getD 0 ByteArray.empty
end Go.Proofs.YthheacebafleeaaDoor
