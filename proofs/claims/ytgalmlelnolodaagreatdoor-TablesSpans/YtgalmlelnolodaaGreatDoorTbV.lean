/- What points become, as plain mathematics: lines of a point and of the points that it becomes; how deep they lead. Nothing of the program is named here. The chart of what points become, as one list: what its text's lines say, and what the kernel reckons with it. No conditions. -/
import Derived.RowKit
import Derived.Test.YtgalmlelnolodaaGreatDoorChGa
namespace Go.Proofs.YtgalmlelnolodaaGreatDoor
set_option linter.unusedVariables false

/-- a line: its point, and what that becomes at once -/
abbrev Ln := Nat × List Nat
/-- the line of a point -/
def lnOf (l : List Ln) (p : Nat) : Option Ln := l.find? fun d => d.1 == p
/-- what a point becomes in full; none: the fuel does not suffice -/
def bcm : Nat → List Ln → Nat → Option (List Nat)
  | 0, _, _ => none
  | f + 1, l, p => match lnOf l p with
    | none => some [p]
    | some d => (d.2.mapM (bcm f l)).map List.flatten
/-- numbers as the bits of one -/
def bitsOf (l : List Nat) : Nat := l.foldr (fun p s => s ||| 1 <<< p) 0
theorem bitsOf_said (l : List Nat) (p : Nat) : (bitsOf l).testBit p = decide (p ∈ l) := by
  induction l with
  | nil => simp [bitsOf]
  | cons a r ih =>
    have e : bitsOf (a :: r) = bitsOf r ||| 1 <<< a := rfl
    rw [e, Nat.testBit_or, ih, Nat.one_shiftLeft, Nat.testBit_two_pow]
    by_cases h : p = a
    · subst h; simp
    · have h2 : ¬ a = p := fun x => h x.symm
      simp [h, h2]
/-- the points that end within so many lines -/
def upto (l : List Ln) (S : Nat) : Nat → Nat
  | 0 => 0
  | k + 1 => bitsOf ((l.filter fun d => d.2.all fun t => !S.testBit t || (upto l S k).testBit t).map (·.1))
theorem lnOf_none {l : List Ln} {p : Nat} (h : ¬ p ∈ l.map (·.1)) : lnOf l p = none := by
  unfold lnOf
  rw [List.find?_eq_none]
  intro d hd e
  exact h (List.mem_map.2 ⟨d, hd, of_decide_eq_true e⟩)
theorem lnOf_mem {l : List Ln} (hn : (l.map (·.1)).Nodup) {d : Ln} (h : d ∈ l) : lnOf l d.1 = some d := by
  induction l with
  | nil => cases h
  | cons a r ih =>
    rw [List.map_cons, List.nodup_cons] at hn
    unfold lnOf
    rw [List.find?_cons]
    rcases List.mem_cons.1 h with rfl | h'
    · simp
    · have hne : ¬ a.1 = d.1 := fun e => hn.1 (by rw [e]; exact List.mem_map.2 ⟨d, h', rfl⟩)
      have : (a.1 == d.1) = false := by simpa using hne
      rw [this]
      exact ih hn.2 h'
theorem mapM_isSome {α β : Type} (f : α → Option β) : ∀ (l : List α), (∀ x ∈ l, (f x).isSome) → (l.mapM f).isSome := by
  intro l
  induction l with
  | nil => intro _; simp
  | cons a r ih =>
    intro h
    obtain ⟨b, hb⟩ := Option.isSome_iff_exists.1 (h a (List.mem_cons_self ..))
    obtain ⟨c, hc⟩ := Option.isSome_iff_exists.1 (ih fun x hx => h x (List.mem_cons_of_mem _ hx))
    simp [List.mapM_cons, hb, hc]
theorem bcm_ends (l : List Ln) (hn : (l.map (·.1)).Nodup) (k : Nat) : ∀ p, ¬ p ∈ l.map (·.1) ∨ (upto l (bitsOf (l.map (·.1))) k).testBit p = true → (bcm (k + 1) l p).isSome := by
  induction k with
  | zero =>
    intro p hp
    rcases hp with hp | hp
    · unfold bcm; rw [lnOf_none hp]; rfl
    · simp [upto] at hp
  | succ k ih =>
    intro p hp
    by_cases hm : p ∈ l.map (·.1)
    · have hb := hp.resolve_left (fun h => h hm)
      unfold upto at hb
      rw [bitsOf_said] at hb
      obtain ⟨d, hd, rfl⟩ := List.mem_map.1 (of_decide_eq_true hb)
      obtain ⟨hdl, hall⟩ := List.mem_filter.1 hd
      unfold bcm
      rw [lnOf_mem hn hdl]
      have := mapM_isSome (bcm (k + 1) l) d.2 fun t ht => by
        refine ih t ?_
        have h := List.all_eq_true.1 hall t ht
        rw [bitsOf_said] at h
        rcases Bool.or_eq_true _ _ ▸ h with h | h
        · exact Or.inl (by simpa using h)
        · exact Or.inr h
      simpa using this
    · unfold bcm; rw [lnOf_none hm]; rfl
end Go.Proofs.YtgalmlelnolodaaGreatDoor
namespace Go.Proofs.YtgalmlelnolodaaGreatDoor
set_option linter.unusedVariables false

/-- what a line says: its point, what that becomes, by likeness, alone -/
abbrev Lt := Nat × List Nat × Bool × Bool
def dtE (d : Dt) : Lt := (d.p, d.to, d.c, d.a)
def chL : List Lt := [(160, [32], true, false), (168, [32, 776], true, false), (170, [97], true, false), (175, [32, 772], true, false), (178, [50], true, false), (179, [51], true, false), (180, [32, 769], true, false), 
  (181, [956], true, false), (184, [32, 807], true, false), (185, [49], true, false), (186, [111], true, false), (188, [49, 8260, 52], true, false), (189, [49, 8260, 50], true, false), (190, [51, 8260, 52], true, false), 
  (192, [65, 768], false, false), (193, [65, 769], false, false), (194, [65, 770], false, false), (195, [65, 771], false, false), (196, [65, 776], false, false), (197, [65, 778], false, false), 
  (199, [67, 807], false, false), (200, [69, 768], false, false), (201, [69, 769], false, false), (202, [69, 770], false, false), (203, [69, 776], false, false), (204, [73, 768], false, false), 
  (205, [73, 769], false, false), (206, [73, 770], false, false), (207, [73, 776], false, false), (209, [78, 771], false, false), (210, [79, 768], false, false), (211, [79, 769], false, false), 
  (212, [79, 770], false, false), (213, [79, 771], false, false), (214, [79, 776], false, false), (217, [85, 768], false, false), (218, [85, 769], false, false), (219, [85, 770], false, false), 
  (220, [85, 776], false, false), (221, [89, 769], false, false), (224, [97, 768], false, false), (225, [97, 769], false, false), (226, [97, 770], false, false), (227, [97, 771], false, false), 
  (228, [97, 776], false, false), (229, [97, 778], false, false), (231, [99, 807], false, false), (232, [101, 768], false, false), (233, [101, 769], false, false), (234, [101, 770], false, false), 
  (235, [101, 776], false, false), (236, [105, 768], false, false), (237, [105, 769], false, false), (238, [105, 770], false, false), (239, [105, 776], false, false), (241, [110, 771], false, false), 
  (242, [111, 768], false, false), (243, [111, 769], false, false), (244, [111, 770], false, false), (245, [111, 771], false, false), (246, [111, 776], false, false), (249, [117, 768], false, false), 
  (250, [117, 769], false, false), (251, [117, 770], false, false), (252, [117, 776], false, false), (253, [121, 769], false, false), (255, [121, 776], false, false), (256, [65, 772], false, false), 
  (257, [97, 772], false, false), (258, [65, 774], false, false), (259, [97, 774], false, false), (260, [65, 808], false, false), (261, [97, 808], false, false), (262, [67, 769], false, false), 
  (263, [99, 769], false, false), (264, [67, 770], false, false), (265, [99, 770], false, false), (266, [67, 775], false, false), (267, [99, 775], false, false), (268, [67, 780], false, false), 
  (269, [99, 780], false, false), (270, [68, 780], false, false), (271, [100, 780], false, false), (274, [69, 772], false, false), (275, [101, 772], false, false), (276, [69, 774], false, false), 
  (277, [101, 774], false, false), (278, [69, 775], false, false), (279, [101, 775], false, false), (280, [69, 808], false, false), (281, [101, 808], false, false), (282, [69, 780], false, false), 
  (283, [101, 780], false, false), (284, [71, 770], false, false), (285, [103, 770], false, false), (286, [71, 774], false, false), (287, [103, 774], false, false), (288, [71, 775], false, false), 
  (289, [103, 775], false, false), (290, [71, 807], false, false), (291, [103, 807], false, false), (292, [72, 770], false, false), (293, [104, 770], false, false), (296, [73, 771], false, false), 
  (297, [105, 771], false, false), (298, [73, 772], false, false), (299, [105, 772], false, false), (300, [73, 774], false, false), (301, [105, 774], false, false), (302, [73, 808], false, false), 
  (303, [105, 808], false, false), (304, [73, 775], false, false), (306, [73, 74], true, false), (307, [105, 106], true, false), (308, [74, 770], false, false), (309, [106, 770], false, false), 
  (310, [75, 807], false, false), (311, [107, 807], false, false), (313, [76, 769], false, false), (314, [108, 769], false, false), (315, [76, 807], false, false), (316, [108, 807], false, false), 
  (317, [76, 780], false, false), (318, [108, 780], false, false), (319, [76, 183], true, false), (320, [108, 183], true, false), (323, [78, 769], false, false), (324, [110, 769], false, false), 
  (325, [78, 807], false, false), (326, [110, 807], false, false), (327, [78, 780], false, false), (328, [110, 780], false, false), (329, [700, 110], true, false), (332, [79, 772], false, false), 
  (333, [111, 772], false, false), (334, [79, 774], false, false), (335, [111, 774], false, false), (336, [79, 779], false, false), (337, [111, 779], false, false), (340, [82, 769], false, false), 
  (341, [114, 769], false, false), (342, [82, 807], false, false), (343, [114, 807], false, false), (344, [82, 780], false, false), (345, [114, 780], false, false), (346, [83, 769], false, false), 
  (347, [115, 769], false, false), (348, [83, 770], false, false), (349, [115, 770], false, false), (350, [83, 807], false, false), (351, [115, 807], false, false), (352, [83, 780], false, false), 
  (353, [115, 780], false, false), (354, [84, 807], false, false), (355, [116, 807], false, false), (356, [84, 780], false, false), (357, [116, 780], false, false), (360, [85, 771], false, false), 
  (361, [117, 771], false, false), (362, [85, 772], false, false), (363, [117, 772], false, false), (364, [85, 774], false, false), (365, [117, 774], false, false), (366, [85, 778], false, false), 
  (367, [117, 778], false, false), (368, [85, 779], false, false), (369, [117, 779], false, false), (370, [85, 808], false, false), (371, [117, 808], false, false), (372, [87, 770], false, false), 
  (373, [119, 770], false, false), (374, [89, 770], false, false), (375, [121, 770], false, false), (376, [89, 776], false, false), (377, [90, 769], false, false), (378, [122, 769], false, false), 
  (379, [90, 775], false, false), (380, [122, 775], false, false), (381, [90, 780], false, false), (382, [122, 780], false, false), (383, [115], true, false), (452, [68, 90, 780], true, false), 
  (453, [68, 122, 780], true, false), (454, [100, 122, 780], true, false), (455, [76, 74], true, false), (456, [76, 106], true, false), (457, [108, 106], true, false), (469, [220, 772], false, false), 
  (470, [252, 772], false, false), (471, [220, 769], false, false), (472, [252, 769], false, false), (473, [220, 780], false, false), (474, [252, 780], false, false), (475, [220, 768], false, false), 
  (476, [252, 768], false, false), (688, [104], true, false), (689, [614], true, false), (728, [32, 774], true, false), (729, [32, 775], true, false), (730, [32, 778], true, false), (731, [32, 808], true, false), 
  (732, [32, 771], true, false), (733, [32, 779], true, false), (832, [768], false, false), (833, [769], false, false), (835, [787], false, false), (836, [776, 769], false, true), (894, [59], false, false), 
  (900, [32, 769], true, false), (901, [168, 769], false, false), (902, [913, 769], false, false), (903, [183], false, false), (904, [917, 769], false, false), (905, [919, 769], false, false), 
  (906, [921, 769], false, false), (908, [927, 769], false, false), (910, [933, 769], false, false), (911, [937, 769], false, false), (912, [970, 769], false, false), (938, [921, 776], false, false), 
  (939, [933, 776], false, false), (940, [945, 769], false, false), (941, [949, 769], false, false), (942, [951, 769], false, false), (943, [953, 769], false, false), (944, [971, 769], false, false), 
  (970, [953, 776], false, false), (971, [965, 776], false, false), (972, [959, 769], false, false), (973, [965, 769], false, false), (974, [969, 769], false, false), (976, [946], true, false), (977, [952], true, false), 
  (1024, [1045, 768], false, false), (1025, [1045, 776], false, false), (1027, [1043, 769], false, false), (1031, [1030, 776], false, false), (1036, [1050, 769], false, false), (1037, [1048, 768], false, false), 
  (1038, [1059, 774], false, false), (1049, [1048, 774], false, false), (1081, [1080, 774], false, false), (1104, [1077, 768], false, false), (1105, [1077, 776], false, false), (1107, [1075, 769], false, false), 
  (1111, [1110, 776], false, false), (1116, [1082, 769], false, false), (1117, [1080, 768], false, false), (1118, [1091, 774], false, false), (1570, [1575, 1619], false, false), (1571, [1575, 1620], false, false), 
  (1572, [1608, 1620], false, false), (1573, [1575, 1621], false, false), (1574, [1610, 1620], false, false), (2392, [2325, 2364], false, true), (2393, [2326, 2364], false, true), (2394, [2327, 2364], false, true), 
  (7680, [65, 805], false, false), (7681, [97, 805], false, false), (7682, [66, 775], false, false), (7683, [98, 775], false, false), (7684, [66, 803], false, false), (7685, [98, 803], false, false), 
  (7686, [66, 817], false, false), (7687, [98, 817], false, false), (7688, [199, 769], false, false), (7689, [231, 769], false, false), (7690, [68, 775], false, false), (7691, [100, 775], false, false), 
  (7840, [65, 803], false, false), (7841, [97, 803], false, false), (7842, [65, 777], false, false), (7843, [97, 777], false, false), (7844, [194, 769], false, false), (7845, [226, 769], false, false), 
  (7846, [194, 768], false, false), (7847, [226, 768], false, false), (8192, [8194], false, false), (8193, [8195], false, false), (8194, [32], true, false), (8195, [32], true, false), (8196, [32], true, false), 
  (8197, [32], true, false), (8198, [32], true, false), (8199, [32], true, false), (8200, [32], true, false), (8201, [32], true, false), (8202, [32], true, false), (8209, [8208], true, false), (8228, [46], true, false), 
  (8229, [46, 46], true, false), (8230, [46, 46, 46], true, false), (8239, [32], true, false), (8287, [32], true, false), (8304, [48], true, false), (8308, [52], true, false), (8309, [53], true, false), 
  (8310, [54], true, false), (8311, [55], true, false), (8312, [56], true, false), (8313, [57], true, false), (8448, [97, 47, 99], true, false), (8449, [97, 47, 115], true, false), (8486, [937], false, false), 
  (8490, [75], false, false), (8491, [65, 778], false, true), (8544, [73], true, false), (8545, [73, 73], true, false), (8546, [73, 73, 73], true, false), (8547, [73, 86], true, false), (8560, [105], true, false), 
  (8561, [105, 105], true, false), (8562, [105, 105, 105], true, false), (8563, [105, 118], true, false), (8800, [61, 824], false, false), (9312, [49], true, false), (9313, [50], true, false), (9314, [51], true, false), 
  (12288, [32], true, false), (12364, [12363, 12441], false, false), (12366, [12365, 12441], false, false), (12368, [12367, 12441], false, false), (12370, [12369, 12441], false, false), 
  (12372, [12371, 12441], false, false), (12374, [12373, 12441], false, false), (12376, [12375, 12441], false, false), (12378, [12377, 12441], false, false), (12380, [12379, 12441], false, false), 
  (12382, [12381, 12441], false, false), (12384, [12383, 12441], false, false), (12386, [12385, 12441], false, false), (12389, [12388, 12441], false, false), (12391, [12390, 12441], false, false), 
  (12393, [12392, 12441], false, false), (12400, [12399, 12441], false, false), (12401, [12399, 12442], false, false), (12403, [12402, 12441], false, false), (12404, [12402, 12442], false, false), 
  (12406, [12405, 12441], false, false), (12407, [12405, 12442], false, false), (12409, [12408, 12441], false, false), (12410, [12408, 12442], false, false), (12412, [12411, 12441], false, false), 
  (12413, [12411, 12442], false, false), (12436, [12358, 12441], false, false), (12460, [12459, 12441], false, false), (12462, [12461, 12441], false, false), (12464, [12463, 12441], false, false), 
  (12466, [12465, 12441], false, false), (12468, [12467, 12441], false, false), (12470, [12469, 12441], false, false), (12472, [12471, 12441], false, false), (12474, [12473, 12441], false, false), 
  (12476, [12475, 12441], false, false), (12478, [12477, 12441], false, false), (12480, [12479, 12441], false, false), (12482, [12481, 12441], false, false), (12485, [12484, 12441], false, false), 
  (12487, [12486, 12441], false, false), (12489, [12488, 12441], false, false), (12496, [12495, 12441], false, false), (12497, [12495, 12442], false, false), (12499, [12498, 12441], false, false), 
  (12500, [12498, 12442], false, false), (12502, [12501, 12441], false, false), (12503, [12501, 12442], false, false), (12505, [12504, 12441], false, false), (12506, [12504, 12442], false, false), 
  (12508, [12507, 12441], false, false), (12509, [12507, 12442], false, false), (12532, [12454, 12441], false, false), (12535, [12527, 12441], false, false), (12536, [12528, 12441], false, false), 
  (12537, [12529, 12441], false, false), (12538, [12530, 12441], false, false), (64256, [102, 102], true, false), (64257, [102, 105], true, false), (64258, [102, 108], true, false), (64259, [102, 102, 105], true, false), 
  (64260, [102, 102, 108], true, false), (64285, [1497, 1460], false, true), (64298, [1513, 1473], false, true), (64299, [1513, 1474], false, true), (65281, [33], true, false), (65282, [34], true, false), 
  (65283, [35], true, false), (65284, [36], true, false), (65285, [37], true, false), (65286, [38], true, false), (65287, [39], true, false), (65288, [40], true, false), (65289, [41], true, false), 
  (65290, [42], true, false), (65291, [43], true, false), (65292, [44], true, false), (65293, [45], true, false), (65294, [46], true, false), (65295, [47], true, false), (65296, [48], true, false), 
  (65297, [49], true, false), (65298, [50], true, false), (65299, [51], true, false), (65300, [52], true, false), (65301, [53], true, false), (65302, [54], true, false), (65303, [55], true, false), 
  (65304, [56], true, false), (65305, [57], true, false), (65306, [58], true, false), (65307, [59], true, false), (65308, [60], true, false), (65309, [61], true, false), (65310, [62], true, false), 
  (65311, [63], true, false), (65312, [64], true, false), (65313, [65], true, false), (65314, [66], true, false), (65315, [67], true, false), (65316, [68], true, false), (65317, [69], true, false), 
  (65318, [70], true, false), (65319, [71], true, false), (65320, [72], true, false), (65321, [73], true, false), (65322, [74], true, false), (65323, [75], true, false), (65324, [76], true, false), 
  (65325, [77], true, false), (65326, [78], true, false), (65327, [79], true, false), (65328, [80], true, false), (65329, [81], true, false), (65330, [82], true, false), (65331, [83], true, false), 
  (65332, [84], true, false), (65333, [85], true, false), (65334, [86], true, false), (65335, [87], true, false), (65336, [88], true, false), (65337, [89], true, false), (65338, [90], true, false), 
  (65339, [91], true, false), (65340, [92], true, false), (65341, [93], true, false), (65342, [94], true, false), (65343, [95], true, false), (65344, [96], true, false), (65345, [97], true, false), 
  (65346, [98], true, false), (65347, [99], true, false), (65348, [100], true, false), (65349, [101], true, false), (65350, [102], true, false), (65351, [103], true, false), (65352, [104], true, false), 
  (65353, [105], true, false), (65354, [106], true, false), (65355, [107], true, false), (65356, [108], true, false), (65357, [109], true, false), (65358, [110], true, false), (65359, [111], true, false), 
  (65360, [112], true, false), (65361, [113], true, false), (65362, [114], true, false), (65363, [115], true, false), (65364, [116], true, false), (65365, [117], true, false), (65366, [118], true, false), 
  (65367, [119], true, false), (65368, [120], true, false), (65369, [121], true, false), (65370, [122], true, false), (65371, [123], true, false), (65372, [124], true, false), (65373, [125], true, false), 
  (65374, [126], true, false), (65393, [12450], true, false), (65394, [12452], true, false), (65395, [12454], true, false), (65396, [12456], true, false), (65397, [12458], true, false), (65398, [12459], true, false), 
  (65399, [12461], true, false), (65400, [12463], true, false), (65401, [12465], true, false), (65402, [12467], true, false), (65403, [12469], true, false), (65404, [12471], true, false), (65405, [12473], true, false), 
  (65406, [12475], true, false), (65407, [12477], true, false), (65408, [12479], true, false), (65409, [12481], true, false), (65410, [12484], true, false), (65411, [12486], true, false), (65412, [12488], true, false), 
  (65413, [12490], true, false), (65414, [12491], true, false), (65415, [12492], true, false), (65416, [12493], true, false), (65417, [12494], true, false), (65418, [12495], true, false), (65438, [12441], true, false), 
  (65439, [12442], true, false), (119134, [119127, 119141], false, true)]
/-- do these lines say just that? -/
def eqV (of : List ByteArray → Option Dt) : List (List ByteArray) → List Lt → Bool
  | [], [] => true
  | l :: ls, d :: L => match of l with
    | some x => (x.p == d.1 && x.to == d.2.1 && x.c == d.2.2.1 && x.a == d.2.2.2) && eqV of ls L
    | none => false
  | _, _ => false
theorem eqV_said {of : List ByteArray → Option Dt} : ∀ {ls : List (List ByteArray)} {L : List Lt}, eqV of ls L = true → ls.map (fun l => (of l).map dtE) = L.map some := by
  intro ls
  induction ls with
  | nil => intro L h; cases L with
    | nil => rfl
    | cons d L => cases h
  | cons l ls ih =>
    intro L h
    cases L with
    | nil => cases h
    | cons d L =>
      unfold eqV at h
      cases hx : of l with
      | none => rw [hx] at h; cases h
      | some x =>
        rw [hx] at h
        simp only [Bool.and_eq_true, beq_iff_eq] at h
        obtain ⟨⟨⟨⟨h1, h2⟩, h3⟩, h4⟩, h5⟩ := h
        rw [List.map_cons, List.map_cons, ih h5, hx]
        congr 1
        show some (dtE x) = some d
        unfold dtE
        rw [h1, h2, h3, h4]
theorem rsV_map {α : Type} {of : List ByteArray → Option α} {bh : α → α → Bool} {ls : List (List ByteArray)} : ∀ {k : Nat} {l : List α}, k ≤ ls.length → rsV of bh ls k = (l, 0) → l.map some = (ls.take k).map of := by
  intro k
  induction k with
  | zero => intro l _ h; cases h; rfl
  | succ k ih =>
    intro l hk h
    obtain ⟨l0, e0, h0⟩ : ∃ l0 e0, rsV of bh ls k = (l0, e0) := ⟨_, _, rfl⟩
    rw [rsV, h0] at h
    by_cases he : e0 = 0
    · subst he
      simp only [ne_eq, not_true_eq_false, if_false] at h
      have hg : ls.getD k [] = ls[k] := by rw [List.getD_eq_getElem?_getD, List.getElem?_eq_getElem (by omega)]; rfl
      rw [hg] at h
      cases hx : of ls[k] with
      | none => rw [hx] at h; cases h
      | some x =>
        rw [hx] at h
        simp only at h
        split at h
        · cases h
          rw [List.map_append, ih (by omega) h0, List.take_succ_eq_append_getElem (by omega), List.map_append]
          simp [hx]
        · cases h
    · rw [if_pos he] at h
      cases h; exact absurd rfl he
theorem its_lit {s : ByteArray} {its : List Dt} {L : List Lt} (h : eqV dcOf (lwV s) L = true) (hr : rsV dcOf upD (lwV s) (lwV s).length = (its, 0)) : its.map dtE = L := by
  have h1 := rsV_map (Nat.le_refl _) hr
  rw [List.take_length] at h1
  have h2 := eqV_said h
  have h3 : (its.map some).map (Option.map dtE) = ((lwV s).map dcOf).map (Option.map dtE) := by rw [h1]
  have h4 : (its.map dtE).map some = L.map some := by
    rw [← h2]
    have e1 : (its.map some).map (Option.map dtE) = (its.map dtE).map some := by simp [List.map_map, Function.comp_def]
    have e2 : ((lwV s).map dcOf).map (Option.map dtE) = (lwV s).map fun l => (dcOf l).map dtE := by simp [List.map_map, Function.comp_def]
    rw [← e1, h3, e2]
  exact List.map_inj_right (f := some) (fun a b e => by cases e; rfl) |>.1 h4

/-- lines that count -/
def cnt (compat : Bool) (L : List Lt) : List Ln := (L.filter fun d => !(d.2.2.1 && !compat)).map fun d => (d.1, d.2.1)
def risesB : List Nat → Bool
  | [] => true
  | [_] => true
  | a :: b :: r => Nat.blt a b && risesB (b :: r)
/-- does all that is led to end, by so many lines, as three words at most? -/
def endsB (l : List Ln) (S U : Nat) : Bool := l.all fun d => U.testBit d.1
end Go.Proofs.YtgalmlelnolodaaGreatDoor
