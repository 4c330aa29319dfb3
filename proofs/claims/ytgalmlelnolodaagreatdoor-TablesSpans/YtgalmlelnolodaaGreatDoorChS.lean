/- The contract of the document's Split, over this seat's translation. Conditions: a text's size. -/
import Derived.Test.YtgalmlelnolodaaGreatDoorChLn
namespace Go.Proofs.YtgalmlelnolodaaGreatDoor
open Go.RowKit
set_option linter.unusedVariables false

theorem append_toList (a b : ByteArray) : (a ++ b).data.toList = a.data.toList ++ b.data.toList := by
  simp [ByteArray.data_append]
theorem ext_toList {a b : ByteArray} (h : a.data.toList = b.data.toList) : a = b := by
  rw [← mkB a, ← mkB b, h]
def mkS (l : List UInt8) : ByteArray := ⟨l.toArray⟩
theorem mkS_toList (l : List UInt8) : (mkS l).data.toList = l := by unfold mkS; simp
/-- the pieces of the first k bytes -/
def pk (c : UInt8) (s : ByteArray) (k : Nat) : List ByteArray := (spl c (s.data.toList.take k)).map mkS
theorem pk_zero (c : UInt8) (s : ByteArray) : pk c s 0 = [⟨#[]⟩] := by unfold pk; rw [List.take_zero]; rfl
theorem pk_all (c : UInt8) (s : ByteArray) : pk c s s.size = splS c s := by
  unfold pk splS
  rw [List.take_of_length_le (by rw [Lib.size_eq]; exact Nat.le_refl _)]
  rfl
theorem pk_ne (c : UInt8) (s : ByteArray) (k : Nat) : 0 < (pk c s k).length := by
  unfold pk; rw [List.length_map]; exact List.length_pos_iff.2 (spl_ne _ _)
theorem take_snoc {s : ByteArray} {k : Nat} (hk : k < s.size) : s.data.toList.take (k + 1) = s.data.toList.take k ++ [s[k]] := by
  have h2 : k < s.data.toList.length := by rw [← Lib.size_eq]; exact hk
  rw [List.take_succ_eq_append_getElem h2]
  rfl
theorem pk_hit {c : UInt8} {s : ByteArray} {k : Nat} (hk : k < s.size) (h : s[k] = c) : pk c s (k + 1) = pk c s k ++ [⟨#[]⟩] := by
  unfold pk
  rw [take_snoc hk, spl_snoc, if_pos h, List.map_append]
  rfl
theorem pk_miss {c : UInt8} {s : ByteArray} {k : Nat} (hk : k < s.size) (h : s[k] ≠ c) : pk c s (k + 1) = (pk c s k).set ((pk c s k).length - 1) (wd (pk c s k) ((pk c s k).length - 1) ++ s.extract k (k + 1)) := by
  have hex : (s.extract k (k + 1)).data.toList = [s[k]] := by
    have h2 : k < s.data.toList.length := by rw [← Lib.size_eq]; exact hk
    rw [Lib.extract_data, Nat.add_sub_cancel_left, List.drop_eq_getElem_cons h2]
    rfl
  obtain ⟨init, last, hil⟩ : ∃ init last, spl c (s.data.toList.take k) = init ++ [last] := ⟨_, _, (List.dropLast_concat_getLast (spl_ne c (s.data.toList.take k))).symm⟩
  unfold pk
  rw [take_snoc hk, spl_snoc, if_neg h, hil]
  simp only [List.dropLast_concat, List.map_append, List.map_cons, List.map_nil, List.length_append, List.length_map, List.length_cons, List.length_nil]
  have e1 : (init ++ [last]).getLastD [] = last := by simp
  have e2 : wd (init.map mkS ++ [mkS last]) (init.length + (0 + 1) - 1) = mkS last := by
    unfold wd
    rw [List.getD_eq_getElem?_getD, List.getElem?_append_right (by simp)]
    simp
  rw [e1, e2, List.set_append_right _ _ (by simp)]
  have e3 : init.length + (0 + 1) - 1 - (init.map mkS).length = 0 := by rw [List.length_map]; omega
  rw [e3]
  have e4 : mkS (last ++ [s[k]]) = mkS last ++ s.extract k (k + 1) := ext_toList (by rw [append_toList, mkS_toList, mkS_toList, hex])
  rw [e4]
  rfl
theorem pk_size {c : UInt8} {s x : ByteArray} {k : Nat} (h : x ∈ pk c s k) : x.size ≤ s.size := by
  unfold pk at h
  obtain ⟨l, hl, rfl⟩ := List.mem_map.1 h
  have h1 := (spl_le c _).1 l hl
  rw [Lib.size_eq, mkS_toList, Lib.size_eq]
  rw [List.length_take] at h1
  omega
theorem pk_len (c : UInt8) (s : ByteArray) (k : Nat) : (pk c s k).length ≤ s.size + 1 := by
  unfold pk
  have h1 := (spl_le c (s.data.toList.take k)).2
  rw [List.length_take, ← Lib.size_eq] at h1
  rw [List.length_map]
  omega
/-- strings as values -/
def strV (l : List ByteArray) : List Value := l.map Value.string
theorem strV_at {l : List ByteArray} {j : Nat} (h : j < l.length) : (strV l)[j]? = some (.string (wd l j)) := by
  unfold strV wd
  rw [List.getElem?_map, List.getElem?_eq_getElem h, List.getD_eq_getElem?_getD, List.getElem?_eq_getElem h]
  rfl
theorem infoStr : (Tryz.prog.info? 9).map (fun i => (i.zero, i.size, i.bytes)) = some (some (.string ⟨#[]⟩), 1, 16) := by kernel_rfl
end Go.Proofs.YtgalmlelnolodaaGreatDoor
