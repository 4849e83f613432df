/- What the functions of layer 2 that take texts apart do: signs, points, digits. The program's, the reference's and the library's. -/
import Derived.Test.YtdgbfblhiongoaaDoorDecRound
import Derived.Test.YtdgbfblhiongoaaDoorDecText
import Derived.Test.YtdgbfblhiongoaaDoorLaid
import Derived.Shelf.Strings.SlTrimAscii
import Derived.Deep.QuietTactic
import Derived.BigQuiet
import Derived.Lib.Bytealg
namespace Go.Proofs.YtdgbfblhiongoaaDoor
open Go.RowKit

theorem below_drewN {B : Nat} {a w : World} (h : Below B a w) : ∀ n, Below B a (w.drewN n)
  | 0 => h
  | n + 1 => (below_drewN h n).drew

theorem ret_s {a b : ByteArray} (h : a = b) : Ending.returned (.string a) = .returned (.string b) := by rw [h]

/-- Does a text begin with a byte? -/
def hd (c : UInt8) (l : List UInt8) : Bool := l.head? == some c
def cutP (c : UInt8) (l : List UInt8) : List UInt8 := if hd c l then l.tail else l
theorem hd_ext (s : ByteArray) (c : UInt8) (h : 0 < s.size) : ((s.extract 0 1).toList == [c]) = hd c s.data.toList := by
  rw [ByteArray.toList_eq, Lib.extract_data]
  unfold hd
  obtain ⟨⟨l⟩⟩ := s
  cases l with
  | nil => exact absurd h (Nat.lt_irrefl 0)
  | cons a r => simp
theorem hd_nil (c : UInt8) (s : ByteArray) (h : s.size = 0) : hd c s.data.toList = false := by
  obtain rfl := empty_of s h; rfl
theorem cut_len (c : UInt8) (l : List UInt8) : (cutP c l).length ≤ l.length := by unfold cutP; split <;> simp
theorem tail_ext (s : ByteArray) : s.extract 1 s.size = mk s.data.toList.tail := by rw [ext_drop]; simp

set_option maxHeartbeats 400000 in
theorem cutp45_any (s : ByteArray) (w : World) (hs : s.size ≤ maxLen) :
    Calls Tryd.prog 51 #[.string s, .string ⟨#[45]⟩] w fun e w' => e = .returned (.tuple #[.string (mk (cutP 45 s.data.toList)), .bool (hd 45 s.data.toList)]) ∧ w = w' := by
  unfold maxLen at hs
  have HT : Hid (mk s.data.toList = s) := mk_self s
  have HE : Hid (mk s.data.toList.tail = s.extract 1 s.size) := (tail_ext s).symm
  unfold cutP
  by_cases h0 : s.size = 0
  · rw [hd_nil _ s h0]
    simp only [Bool.false_eq_true, if_false]
    rw [HT.out]
    obtain rfl := empty_of s h0
    clear hs h0 HT HE
    go_enter Tryd.func51, Tryd.ntmps51
    go_wp2
    go_ret2
    exact ⟨rfl, rfl⟩
  · have hp : (1 : Int) ≤ s.size := by omega
    have hm := hd_ext s 45 (by omega)
    rcases tf (hd 45 s.data.toList) with hv | hv
    all_goals
      rw [hv] at hm
      rw [hv]
      try simp only [if_true]
      try simp only [Bool.false_eq_true, if_false]
      first | rw [HE.out] | rw [HT.out]
      clear hv h0 HT HE
      go_enter Tryd.func51, Tryd.ntmps51
      go_wp2
      go_ret2
      exact ⟨rfl, rfl⟩

set_option maxHeartbeats 400000 in
theorem cutp46_any (s : ByteArray) (w : World) (hs : s.size ≤ maxLen) :
    Calls Tryd.prog 51 #[.string s, .string ⟨#[46]⟩] w fun e w' => e = .returned (.tuple #[.string (mk (cutP 46 s.data.toList)), .bool (hd 46 s.data.toList)]) ∧ w = w' := by
  unfold maxLen at hs
  have HT : Hid (mk s.data.toList = s) := mk_self s
  have HE : Hid (mk s.data.toList.tail = s.extract 1 s.size) := (tail_ext s).symm
  unfold cutP
  by_cases h0 : s.size = 0
  · rw [hd_nil _ s h0]
    simp only [Bool.false_eq_true, if_false]
    rw [HT.out]
    obtain rfl := empty_of s h0
    clear hs h0 HT HE
    go_enter Tryd.func51, Tryd.ntmps51
    go_wp2
    go_ret2
    exact ⟨rfl, rfl⟩
  · have hp : (1 : Int) ≤ s.size := by omega
    have hm := hd_ext s 46 (by omega)
    rcases tf (hd 46 s.data.toList) with hv | hv
    all_goals
      rw [hv] at hm
      rw [hv]
      try simp only [if_true]
      try simp only [Bool.false_eq_true, if_false]
      first | rw [HE.out] | rw [HT.out]
      clear hv h0 HT HE
      go_enter Tryd.func51, Tryd.ntmps51
      go_wp2
      go_ret2
      exact ⟨rfl, rfl⟩

theorem hasp_any (s : ByteArray) (w : World) (hs : s.size ≤ maxLen) :
    Calls Tryd.prog 53 #[.string s, .string ⟨#[45]⟩] w fun e w' => e = .returned (.bool (hd 45 s.data.toList)) ∧ w = w' := by
  unfold maxLen at hs
  by_cases h0 : s.size = 0
  · rw [hd_nil _ s h0]
    obtain rfl := empty_of s h0
    clear hs h0
    go_enter Tryd.func53, Tryd.ntmps53
    go_wp2
    go_ret
    exact ⟨rfl, rfl⟩
  · have hp : (1 : Int) ≤ s.size := by omega
    have hm := hd_ext s 45 (by omega)
    rcases tf (hd 45 s.data.toList) with hv | hv
    all_goals
      rw [hv] at hm
      rw [hv]
      clear hv h0
      go_enter Tryd.func53, Tryd.ntmps53
      go_wp2
      go_ret
      exact ⟨rfl, rfl⟩

theorem trimp_any (s : ByteArray) (w : World) (hs : s.size ≤ maxLen) :
    Calls Tryd.prog 74 #[.string s, .string ⟨#[43]⟩] w fun e w' => e = .returned (.string (mk (cutP 43 s.data.toList))) ∧ w = w' := by
  unfold maxLen at hs
  have HT : Hid (mk s.data.toList = s) := mk_self s
  have HE : Hid (mk s.data.toList.tail = s.extract 1 s.size) := (tail_ext s).symm
  unfold cutP
  by_cases h0 : s.size = 0
  · rw [hd_nil _ s h0]
    simp only [Bool.false_eq_true, if_false]
    rw [HT.out]
    obtain rfl := empty_of s h0
    clear hs h0 HT HE
    go_enter Tryd.func74, Tryd.ntmps74
    go_wp2
    go_ret
    exact ⟨rfl, rfl⟩
  · have hp : (1 : Int) ≤ s.size := by omega
    have hm := hd_ext s 43 (by omega)
    rcases tf (hd 43 s.data.toList) with hv | hv
    all_goals
      rw [hv] at hm
      rw [hv]
      try simp only [if_true]
      try simp only [Bool.false_eq_true, if_false]
      first | rw [HE.out] | rw [HT.out]
      clear hv h0 HT HE
      go_enter Tryd.func74, Tryd.ntmps74
      go_wp2
      go_ret
      exact ⟨rfl, rfl⟩

theorem triml_any (s : ByteArray) (w : World) :
    Calls Tryd.prog 61 #[.string s, .string ⟨#[32, 9]⟩] w fun e w' => e = .returned (.string (mk (Lib.trimLeftS s.data.toList [32, 9]))) ∧ Below w.heap.size w w' := by
  have h := Any.strings_TrimLeft_laid Tryd.lays161 (by kernel_rfl) s ⟨#[32, 9]⟩ w (by decide) (ascii_of_all (by decide))
  exact h

set_option maxRecDepth 100000 in
theorem indexb_any (s : ByteArray) (w : World) :
    Calls Tryd.prog 86 #[.string s, .int .u8 46] w fun e w' => e = .returned (.int .i64 (Lib.indexByte s.data.toList 46)) ∧ w = w' := by
  go_enter Tryd.func86, Tryd.ntmps86
  go_wp2
  rw [run_callFunc_extern Tryd.func92 (by kernel_rfl) (by kernel_rfl) (by kernel_rfl) (e := Extern.BytealgIndexByte.indexByte) (by kernel_rfl), Lib.run_indexByteString]
  simp only [Result.andThen]
  rw [Oper.upon_value]
  go_wp2
  go_ret
  exact ⟨rfl, rfl⟩


/-- Where the first point of a text stands, or -1. -/
def dotI (l : List UInt8) : Int := Lib.indexByte l 46
theorem index_any (s : ByteArray) (w : World) :
    Calls Tryd.prog 80 #[.string s, .string ⟨#[46]⟩] w fun e w' => e = .returned (.int .i64 (dotI s.data.toList)) ∧ w = w' := by
  have HI : Hid (∀ w, Calls Tryd.prog 86 #[.string s, .int .u8 46] w fun e w' => e = .returned (.int .i64 (dotI s.data.toList)) ∧ w = w') := fun w => indexb_any s w
  by_cases he : s.data.toList = [46]
  · have hq : ([46] == s.toList) = true := by rw [ByteArray.toList_eq, he]; rfl
    have hd : dotI s.data.toList = 0 := by rw [he]; rfl
    rw [hd]
    clear he hd HI
    go_enter Tryd.func80, Tryd.ntmps80
    go_wp2
    go_ret
    exact ⟨rfl, rfl⟩
  · have hq : ([46] == s.toList) = false := by rw [ByteArray.toList_eq]; exact beq_eq_false_iff_ne.2 (fun e => he e.symm)
    generalize dotI s.data.toList = x at *
    clear he
    go_enter Tryd.func80, Tryd.ntmps80
    go_wp2_with (go_at_call 86; refine (HI.out _).mono ?_; rintro e w' ⟨rfl, rfl⟩)
    go_ret
    exact ⟨rfl, rfl⟩

end Go.Proofs.YtdgbfblhiongoaaDoor
