/- The contracts of geom as it landed, under one name: Twice Side On Meet Less Dist In Overlap _any. -/
import Derived.Test.YtjdkgndecnhokaaECode4
import Derived.Test.YtjdkgndecnhokaaECode6
import Derived.Test.YtjdkgndecnhokaaECode8
import Derived.Test.YtjdkgndecnhokaaECode11
